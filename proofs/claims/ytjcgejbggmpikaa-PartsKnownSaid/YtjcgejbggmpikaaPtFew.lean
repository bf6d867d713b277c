/-
  What is proved here: the contract of the law's few: what it lets through is small. Conditions: the part can be read.
-/
import Derived.Test.YtjcgejbggmpikaaPtJ1
namespace Go.Proofs.Ytjcgejbggmpikaa.Pt
open Go.RowKit Gr Wd Ws

def FwRel (w1 : World) (rows : List (List Ed)) (n g : Nat) (v3 i : Value) (wr : World) : Prop :=
  ∃ (j m : Nat), j + g = n ∧ i = .int .i64 (j : Int) ∧ v3 = .int .i64 (m : Int) ∧ m ≤ 60 ∧ w1 = wr ∧ Hid (∀ r ∈ rows.take j, r.length ≤ 60)

def FwRes (P : Pt) (e : Ending) : Prop := ∃ r, e = .returned (.bool r) ∧ Hid (r = true → ∀ row ∈ P.out, row.length ≤ 60)

set_option maxRecDepth 100000 in
set_option maxHeartbeats 2000000 in
theorem few_any (x : Value) (P : Pt) (w : World) (hx : PtV w x P) :
    Calls Try.prog 20 #[x] w fun e w' => FwRes P e ∧ Below w.heap.size w w' := by
  obtain ⟨A1, c1, A2, c2, A3, c3, rfl, h1, h2, h3⟩ := hx
  obtain ⟨n1, hn1⟩ : ∃ n, P.own.length = n := ⟨_, rfl⟩
  obtain ⟨n2, hn2⟩ : ∃ n, P.out.length = n := ⟨_, rfl⟩
  obtain ⟨n3, hn3⟩ : ∃ n, P.back.length = n := ⟨_, rfl⟩
  rw [hn1, hn2, hn3]
  obtain ⟨w1, hw1⟩ : ∃ w1, w1 = w.alloc (.cells #[.int .i64 P.w, .int .i64 P.k, .int .i64 P.n, .slice A1 n1 c1, .slice A2 n2 c2, .slice A3 n3 c3] 34) := ⟨_, rfl⟩
  have hz : Below w.heap.size w w1 := by rw [hw1]; exact (Below.refl _ w).alloc (Nat.le_refl _) _
  have hb : w1.heap[w.heap.size]? = some (.cells #[.int .i64 P.w, .int .i64 P.k, .int .i64 P.n, .slice A1 n1 c1, .slice A2 n2 c2, .slice A3 n3 c3] 34 (0, 0)) := by rw [hw1]; exact heap_alloc_new w _
  have H2 := Lib.hid (h2.below hz); have H3 := Lib.hid (h3.below hz)
  have HZ := Lib.hid hz; have HW := Lib.hid hw1
  have HN2 := Lib.hid hn2; have HN3 := Lib.hid hn3
  have hbx := hb
  rw [hw1] at hbx
  obtain ⟨x0, x1, x2, x3, x4, x5, _⟩ := six hbx
  obtain ⟨y0, y1, y2, y3, y4, y5, _⟩ := six hb
  clear hb hbx h1 h2 h3 hz hn1 hn2 hn3 hw1
  have NO : ∀ W, W = w1 → (FwRes P (.returned (.bool false)) ∧ Below w.heap.size w W) := fun W h => ⟨⟨false, rfl, Lib.hid (fun h => by cases h)⟩, by rw [h]; exact HZ.out⟩
  have HNO := Lib.hid NO; clear NO
  by_cases k1 : 60 < n1
  · go_enter Try.func20, Try.ntmps20
    go_wp2_with fail
    go_ret
    exact HNO.out _ HW.out.symm
  · by_cases k2 : 60 < n2
    · go_enter Try.func20, Try.ntmps20
      go_wp2_with fail
      go_ret
      exact HNO.out _ HW.out.symm
    · by_cases k3 : 60 < n3
      · go_enter Try.func20, Try.ntmps20
        go_wp2_with fail
        go_ret
        exact HNO.out _ HW.out.symm
      · go_enter Try.func20, Try.ntmps20
        go_wp2_with fail
        rw [← HW.out]
        go_loopg [3, 4] n2 (fun g v3 i wr => FwRel w1 P.out n2 g v3 i wr)
        case atStart => exact ⟨0, 0, by omega, rfl, rfl, by omega, rfl, Lib.hid (by simp)⟩
        case round =>
          obtain ⟨j, m, hj, rfl, rfl, hm, rfl, HR⟩ := hrel
          by_cases hlt : j < n2
          · obtain ⟨row, hrow⟩ := at_lt P.out j (by rw [HN2.out]; exact hlt)
            obtain ⟨bk, o, A', c', rfl, q0, _⟩ := H2.out j row hrow
            obtain ⟨z, hz⟩ : ∃ z, row.length = z := ⟨_, rfl⟩
            rw [hz] at q0
            have HROW := Lib.hid hrow; have HZL := Lib.hid hz
            clear hrow hz
            by_cases hbig : (60 : Int) - (m : Int) < (z : Int)
            · go_wp2_with fail
              go_ret
              exact HNO.out _ rfl
            · go_wp2
              go_roundg (gk - 1)
              case measure => omega
              case rel => exact ⟨j + 1, m + z, by omega, by go_num, by go_num, by omega, rfl, Lib.hid (fun r hr => by
                rw [take_at HROW.out] at hr
                rcases List.mem_append.1 hr with hr | hr
                · exact HR.out r hr
                · simp at hr; subst hr; rw [HZL.out]; omega)⟩
          · have hend : ∀ row ∈ P.out, row.length ≤ 60 := by
              have := HR.out
              rw [List.take_of_length_le (by rw [HN2.out]; omega)] at this
              exact this
            have HEND := Lib.hid hend; clear hend
            go_wp2_with fail
            go_loopg [3, 5] n3 (fun g v3 i wr => FwRel w1 [] n3 g v3 i wr)
            case atStart => exact ⟨0, 0, by omega, rfl, rfl, by omega, rfl, Lib.hid (by simp)⟩
            case round =>
              clear hj HR
              obtain ⟨j2, m2, hj, rfl, rfl, hm, rfl, HR⟩ := hrel
              by_cases hlt : j2 < n3
              · obtain ⟨row, hrow⟩ := at_lt P.back j2 (by rw [HN3.out]; exact hlt)
                obtain ⟨bk, o, A', c', rfl, q0, _⟩ := H3.out j2 row hrow
                obtain ⟨z, hz⟩ : ∃ z, row.length = z := ⟨_, rfl⟩
                rw [hz] at q0
                clear hrow hz
                by_cases hbig : (60 : Int) - (m2 : Int) < (z : Int)
                · go_wp2_with fail
                  go_ret
                  exact HNO.out _ rfl
                · go_wp2
                  go_roundg (gk - 1)
                  case measure => omega
                  case rel => exact ⟨j2 + 1, m2 + z, by omega, by go_num, by go_num, by omega, rfl, Lib.hid (by simp)⟩
              · go_wp2_with fail
                go_ret
                exact ⟨⟨true, rfl, Lib.hid (fun _ => HEND.out)⟩, HZ.out⟩

end Go.Proofs.Ytjcgejbggmpikaa.Pt
