/-
  What is proved here: the contract of the library's swapRangeCmpFunc over a row of messages. Conditions: the row is one that the call has made.
-/
import Derived.Test.YtbbmgandkmlojaaGreatAlRow
namespace Go.Proofs.YtbbmgandkmlojaaGreat.Al
open Go.RowKit Go.Sort Gr Wd Ws

def SrRel (w : World) (g N sz a b n : Nat) (d : Array Ms) (gk : Nat) (vi : Value) (wr : World) : Prop :=
  ∃ (i : Nat) (e : Array Ms), vi = .int .i64 (i : Int) ∧ i + gk = n ∧ e.size = sz ∧ SWm w wr g N e ∧ Swr a b i d e
set_option maxRecDepth 100000 in
set_option maxHeartbeats 1000000 in
theorem swapRange_any (w : World) (g N sz c a b n : Nat) (d : Array Ms) (cv : Value) (h : Hid (SWm w w g N d)) (hd : Hid (d.size = sz)) (h1 : a + n ≤ b) (h2 : b + n ≤ sz) (hn : sz < 1000000000) :
    Calls Tryz.prog 115 #[.slice (some ⟨g, 0, none⟩) sz c, .int .i64 (a : Int), .int .i64 (b : Int), .int .i64 (n : Int), cv] w fun e w' => e = .returned (.tuple #[]) ∧ ∃ d', Hid (SWm w w' g N d' ∧ Swr a b n d d') := by
  have mixed := mixedO
  go_enter Tryz.func115, Tryz.ntmps115
  go_wp2
  go_loopg [10] n (fun gk vi wr => SrRel w g N sz a b n d gk vi wr)
  case atStart => exact ⟨0, d, rfl, by omega, hd.out, h.out, swr_zero _ _ _⟩
  case round =>
    obtain ⟨i, e, rfl, hig, hes, hsw, hr⟩ := hrel
    have HS := Lib.hid hsw; have HR := Lib.hid hr; have HE := Lib.hid hes; clear hsw hr hes
    by_cases hin : i < n
    · have HS := HS
      obtain ⟨p, hp⟩ : ∃ p, p = a + i := ⟨_, rfl⟩
      obtain ⟨q, hq⟩ : ∃ q, q = b + i := ⟨_, rfl⟩
      have hpq : ¬ p = q := by omega
      obtain ⟨y0, y1⟩ := HS.out.cells p (by rw [HE.out]; omega)
      obtain ⟨z0, z1⟩ := HS.out.cells q (by rw [HE.out]; omega)
      obtain ⟨ya, hya⟩ : ∃ x, e[p]!.1 = x := ⟨_, rfl⟩
      obtain ⟨yb, hyb⟩ : ∃ x, e[p]!.2 = x := ⟨_, rfl⟩
      obtain ⟨za, hza⟩ : ∃ x, e[q]!.1 = x := ⟨_, rfl⟩
      obtain ⟨zb, hzb⟩ : ∃ x, e[q]!.2 = x := ⟨_, rfl⟩
      have HX := Lib.hid (HS.out.xch p q (by rw [HE.out]; omega) (by rw [HE.out]; omega) ya yb za zb hya hyb hza hzb)
      rw [hya] at y0; rw [hyb] at y1; rw [hza] at z0; rw [hzb] at z1
      have rf := HS.out.free
      clear hya hyb hza hzb
      have t1 : ((a : Int) + (i : Int)).toNat = p := by omega
      have t2 : ((b : Int) + (i : Int)).toNat = q := by omega
      have i1 : IntKind.i64.wrap ((a : Int) + (i : Int)) = (a : Int) + (i : Int) := by rw [IntKind.wrap_i64]; omega
      have i2 : IntKind.i64.wrap ((b : Int) + (i : Int)) = (b : Int) + (i : Int) := by rw [IntKind.wrap_i64]; omega
      have q1 : (a : Int) + (i : Int) < (sz : Int) := by omega
      have q2 : (b : Int) + (i : Int) < (sz : Int) := by omega
      have HP := Lib.hid hp; have HQ := Lib.hid hq
      clear hp hq
      go_wp2_with fail
      go_big_region
      go_wp2
      go_roundg (gk - 1)
      case measure => omega
      case rel =>
        refine ⟨i + 1, swp e p q, by go_num, by omega, by rw [size_swp]; exact HE.out, HX.out.drew, ?_⟩
        have := swr_step HR.out (by omega) (by rw [← HR.out.1, HE.out]; omega)
        rw [HP.out, HQ.out]; exact this
    · go_wp2
      go_end0
      have : i = n := by omega
      subst this
      exact ⟨rfl, e, Lib.hid ⟨HS.out, HR.out⟩⟩
theorem swapRange_at (w : World) (g N sz c a b n : Nat) (d : Array Ms) (cv : Value) (A B M : Int) (hA : A = (a : Int)) (hB : B = (b : Int)) (hM : M = (n : Int)) (h : Hid (SWm w w g N d)) (hd : Hid (d.size = sz)) (h1 : a + n ≤ b) (h2 : b + n ≤ sz) (hn : sz < 1000000000) :
    Calls Tryz.prog 115 #[.slice (some ⟨g, 0, none⟩) sz c, .int .i64 A, .int .i64 B, .int .i64 M, cv] w fun e w' => e = .returned (.tuple #[]) ∧ ∃ d', Hid (SWm w w' g N d' ∧ Swr a b n d d') := by
  subst hA hB hM; exact swapRange_any w g N sz c a b n d cv h hd h1 h2 hn

end Go.Proofs.YtbbmgandkmlojaaGreat.Al
