/-
  What is proved here: the contract of the library's rotateCmpFunc over a row of messages. Conditions: the row is one that the call has made.
-/
import Derived.Test.YtbbmgandkmlojaaGreatAlS1
namespace Go.Proofs.YtbbmgandkmlojaaGreat.Al
open Go.RowKit Go.Sort Gr Wd Ws

def RoRel (w : World) (g N sz a m b : Nat) (d : Array Ms) (gk : Nat) (vi vj : Value) (wr : World) : Prop :=
  ∃ (i j : Nat) (e : Array Ms), vi = .int .i64 (i : Int) ∧ vj = .int .i64 (j : Int) ∧ 0 < i ∧ 0 < j ∧ i ≤ m ∧ m + j ≤ sz ∧ i + j = gk ∧ e.size = sz ∧ SWm w wr g N e ∧ ∀ f, Rot (m - i) m (m + j) e f → Rot a m b d f
set_option maxRecDepth 100000 in
set_option maxHeartbeats 1000000 in
theorem rotate_any (w : World) (g N sz c a m b : Nat) (d : Array Ms) (cv : Value) (h : Hid (SWm w w g N d)) (hd : Hid (d.size = sz)) (h1 : a < m) (h2 : m < b) (h3 : b ≤ sz) (hn : sz < 1000000000) :
    Calls Tryz.prog 114 #[.slice (some ⟨g, 0, none⟩) sz c, .int .i64 (a : Int), .int .i64 (m : Int), .int .i64 (b : Int), cv] w fun e w' => e = .returned (.tuple #[]) ∧ ∃ d', Hid (SWm w w' g N d' ∧ Rot a m b d d') := by
  go_enter Tryz.func114, Tryz.ntmps114
  go_wp2
  go_loopg [10, 11] (b - a) (fun gk vi vj wr => RoRel w g N sz a m b d gk vi vj wr)
  case atStart => exact ⟨m - a, b - m, d, by congr 1; omega, by congr 1; omega, by omega, by omega, by omega, by omega, by omega, hd.out, h.out, fun f hf => by
    rw [show m - (m - a) = a by omega, show m + (b - m) = b by omega] at hf; exact hf⟩
  case round =>
    obtain ⟨i, j, e, rfl, rfl, hi0, hj0, him, hjs, hg, hes, hsw, hr⟩ := hrel
    have HS := Lib.hid hsw; have HR := Lib.hid hr; have HE := Lib.hid hes; have HS0 := Lib.hid hsw.start; clear hsw hr hes
    by_cases hij : i = j
    · subst hij
      go_wp2_with fail
      refine (swapRange_at wr g N sz c (m - i) m i e cv _ _ _ (by omega) rfl rfl HS0 HE (by omega) (by omega) hn).mono ?_
      rintro x w2 ⟨rfl, f, hf⟩
      have HF := Lib.hid (HR.out f (rot_same him hf.out.2)); have HG := Lib.hid (HS.out.on hf.out.1)
      clear hf
      go_wp2
      go_end0
      exact ⟨rfl, f, Lib.hid ⟨HG.out, HF.out⟩⟩
    · by_cases hlt : j < i
      · go_wp2_with fail
        refine (swapRange_at wr g N sz c (m - i) m j e cv _ _ _ (by omega) rfl rfl HS0 HE (by omega) (by omega) hn).mono ?_
        rintro x w2 ⟨rfl, f, hf⟩
        have HF := Lib.hid (fun u (hu : Rot (m - (i - j)) m (m + j) f u) => HR.out u (rot_left him hlt hf.out.2 hu)); have HG := Lib.hid (HS.out.on hf.out.1)
        have HZ := Lib.hid (hf.out.2.1.trans HE.out)
        clear hf
        go_wp2
        go_roundg (gk - j)
        case measure => omega
        case rel => exact ⟨i - j, j, f, by congr 1; omega, rfl, by omega, hj0, by omega, hjs, by omega, HZ.out, HG.out, HF.out⟩
      · go_wp2_with fail
        refine (swapRange_at wr g N sz c (m - i) (m + j - i) i e cv _ _ _ (by omega) (by omega) rfl HS0 HE (by omega) (by omega) hn).mono ?_
        rintro x w2 ⟨rfl, f, hf⟩
        have HF := Lib.hid (fun u (hu : Rot (m - i) m (m + (j - i)) f u) => HR.out u (rot_right him (by omega) hf.out.2 hu)); have HG := Lib.hid (HS.out.on hf.out.1)
        have HZ := Lib.hid (hf.out.2.1.trans HE.out)
        clear hf
        go_wp2
        go_roundg (gk - i)
        case measure => omega
        case rel => exact ⟨i, j - i, f, rfl, by congr 1; omega, hi0, by omega, him, by omega, by omega, HZ.out, HG.out, HF.out⟩
theorem rotate_at (w : World) (g N sz c a m b : Nat) (d : Array Ms) (cv : Value) (A M B : Int) (hA : A = (a : Int)) (hM : M = (m : Int)) (hB : B = (b : Int)) (h : Hid (SWm w w g N d)) (hd : Hid (d.size = sz)) (h1 : a < m) (h2 : m < b) (h3 : b ≤ sz) (hn : sz < 1000000000) :
    Calls Tryz.prog 114 #[.slice (some ⟨g, 0, none⟩) sz c, .int .i64 A, .int .i64 M, .int .i64 B, cv] w fun e w' => e = .returned (.tuple #[]) ∧ ∃ d', Hid (SWm w w' g N d' ∧ Rot a m b d d') := by
  subst hA hM hB; exact rotate_any w g N sz c a m b d cv h hd h1 h2 h3 hn

end Go.Proofs.YtbbmgandkmlojaaGreat.Al
