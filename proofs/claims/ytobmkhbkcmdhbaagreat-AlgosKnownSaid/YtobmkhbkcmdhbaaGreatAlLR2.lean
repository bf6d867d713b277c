/-
  What is proved here: the contract of the document's own Near: a vertex's neighbours. Conditions: at most 100000 edges each way.
-/
import Derived.Test.YtobmkhbkcmdhbaaGreatAlLR1
namespace Go.Proofs.YtobmkhbkcmdhbaaGreat.Lb
open Go.RowKit Gr Wd Ws

def M1Rel (w : World) (v : Int) (L : List Ed) (g : Nat) (x i : Value) (wr : World) : Prop :=
  ∃ k : Nat, k + g = L.length ∧ i = .int .i64 (k : Int) ∧ IOwn wr w.heap.size x (putAll [] (tos v (L.take k))) ∧ Below w.heap.size w wr
def M2Rel (w : World) (v : Int) (L M : List Ed) (g : Nat) (x i : Value) (wr : World) : Prop :=
  ∃ k : Nat, k + g = M.length ∧ i = .int .i64 (k : Int) ∧ IOwn wr w.heap.size x (putAll [] (tos v L ++ froms v (M.take k))) ∧ Below w.heap.size w wr
theorem put_small (l : List Int) (n : Nat) (h : l.length ≤ n) : (putAll [] l).length ≤ n := by have := putAll_len l []; simp at this; omega

set_option maxRecDepth 100000 in
set_option maxHeartbeats 1000000 in
theorem rnear_any (v : Int) (A B : Option Addr) (c d : Nat) (L M : List Ed) (w : World) (hL : EAt w A L) (hM : EAt w B M) (hl : L.length ≤ 100000) (hm : M.length ≤ 100000) :
    Calls Tryz.prog 43 #[.int .i64 v, .slice A L.length c, .slice B M.length d] w fun e w' => ∃ r, e = .returned r ∧ Hid (IOwn w' w.heap.size r (nearL v L M)) ∧ Hid (Below w.heap.size w w') := by
  have HL := Lib.hid hL; have HM := Lib.hid hM; clear hL hM
  go_enter Tryz.func43, Tryz.ntmps43
  go_wp2
  go_loopg [7, 8] L.length (fun g x i wr => M1Rel w v L g x i wr)
  case atStart => exact ⟨0, by omega, rfl, IOwn.none_ _ _, Below.refl _ w⟩
  case round =>
    obtain ⟨k, hk, rfl, ho, hb⟩ := hrel
    by_cases hlt : k < L.length
    · obtain ⟨e, he⟩ := at_lt L k hlt
      obtain ⟨bk, o, rfl, c0, c1, c2⟩ := (HL.out.below hb) k e he
      obtain ⟨e0, e1, e2⟩ := e
      have hlen : (putAll [] (tos v (L.take k))).length < 1000000 := by have h1 := tos_len v (L.take k); have h2 := take_len L k; have h3 := put_small _ _ h1; omega
      have HC := Lib.hid (put_any _ _ w.heap.size e1 _ ho hb.size hlen)
      have HE := Lib.hid he; have HB := Lib.hid hb; have HO := Lib.hid ho
      clear hb ho he hlen
      by_cases hev : e1 = v
      · subst hev
        go_wp2
        go_roundg (gk - 1)
        case measure => omega
        case rel =>
          refine ⟨k + 1, by omega, by go_num, ?_, HB.out⟩
          rw [take_at HE.out, tos_snoc, if_pos rfl]; exact HO.out
      · go_wp2_with fail
        refine HC.out.mono ?_
        rintro er w1 ⟨r, rfl, hO, hb2⟩
        go_wp2
        go_roundg (gk - 1)
        case measure => omega
        case rel =>
          refine ⟨k + 1, by omega, by go_num, ?_, HB.out.trans (hb2.out.mono HB.out.size)⟩
          rw [take_at HE.out, tos_snoc, if_neg hev, putAll_snoc]; exact hO.out
    · have HK : Hid (k = L.length) := Lib.hid (by omega)
      have hfull := ho; rw [HK.out, List.take_length] at hfull
      have HO := Lib.hid hfull; have HB := Lib.hid hb; clear ho hb hfull
      obtain ⟨G, rfl⟩ : ∃ G : Nat, G = gk := ⟨_, rfl⟩
      clear HK
      go_wp2
      go_loopg [7, 9] M.length (fun g x i wr => M2Rel w v L M g x i wr)
      case atStart => exact ⟨0, by omega, rfl, by simpa [froms] using HO.out, HB.out⟩
      case round =>
        obtain ⟨k2, hk2, rfl, ho, hb⟩ := hrel
        clear HO HB
        by_cases hlt2 : k2 < M.length
        · obtain ⟨e, he⟩ := at_lt M k2 hlt2
          obtain ⟨bk, o, rfl, c0, c1, c2⟩ := (HM.out.below hb) k2 e he
          obtain ⟨e0, e1, e2⟩ := e
          have hlen : (putAll [] (tos v L ++ froms v (M.take k2))).length < 1000000 := by
            have h1 := tos_len v L; have h2 := froms_len v (M.take k2); have h3 := take_len M k2
            have h4 := put_small (tos v L ++ froms v (M.take k2)) 200000 (by rw [List.length_append]; omega)
            omega
          have HC := Lib.hid (put_any _ _ w.heap.size e0 _ ho hb.size hlen)
          have HE := Lib.hid he; have HB := Lib.hid hb; have HO := Lib.hid ho
          clear hb ho he hlen
          by_cases hev : e0 = v
          · subst hev
            go_wp2
            go_roundg (gk - 1)
            case measure => omega
            case rel =>
              refine ⟨k2 + 1, by omega, by go_num, ?_, HB.out⟩
              rw [take_at HE.out, froms_snoc, if_pos rfl]; exact HO.out
          · go_wp2_with fail
            refine HC.out.mono ?_
            rintro er w1 ⟨r, rfl, hO, hb2⟩
            go_wp2
            go_roundg (gk - 1)
            case measure => omega
            case rel =>
              refine ⟨k2 + 1, by omega, by go_num, ?_, HB.out.trans (hb2.out.mono HB.out.size)⟩
              rw [take_at HE.out, froms_snoc, if_neg hev, ← List.append_assoc, putAll_snoc]; exact hO.out
        · have HK2 : Hid (k2 = M.length) := Lib.hid (by omega)
          have hfull := ho; rw [HK2.out, List.take_length] at hfull
          have HO := Lib.hid hfull; have HB := Lib.hid hb; clear ho hb hfull
          go_wp2
          go_ret
          exact ⟨_, rfl, HO, HB⟩

end Go.Proofs.YtobmkhbkcmdhbaaGreat.Lb
