/-
  What is proved here: contracts of package fixed's distance, Add, Apart, Share and of the document's own dist, Add, Apart, Share. No condition. What is proved here: contracts of package rank's answered, Start and Give, and of the document's own Start and Give. No condition.
-/
import Derived.Test.YtdcaekmgfcpbmaaGreatQdHi
import Derived.Test.YtdcaekmgfcpbmaaGreatQdRkMathx
import Derived.WalkKit
import Derived.WalkSpells
import Derived.Deep.LoopGhost
import Derived.Lib.Hide
namespace Go.Proofs.YtdcaekmgfcpbmaaGreat.Fx
open Go.RowKit
theorem ret_int {k:IntKind} {a b:Int} (h:a = b):Ending.returned (.int k a) = .returned (.int k b):=by rw [h]
theorem ret_two {k j:IntKind} {a b c d:Int} (h:a = b) (g:c = d):Ending.returned (.tuple #[.int k a,.int j c]) = .returned (.tuple #[.int k b,.int j d]):=by rw [h,g]
theorem distance_any (a:Int) (w:World) (_h0:-9223372036854775808 <= a) (_h1:a <= 9223372036854775807):Calls Tryz.prog 89 #[.int .i64 a] w fun e w' => e = .returned (.int .i64 (dst a))/\w = w':=by
 by_cases h:a < 0
 ·have HE:=jH (show dst a = 0 by unfold dst; rw [if_pos h])
  go_enter Tryz.func89,Tryz.ntmps89
  go_wp2
  go_ret
  exact ⟨ret_int HE.out.symm,rfl⟩
 ·by_cases hi:4611686018427387904 < a
  ·have HE:=jH (show dst a = 4611686018427387904 by unfold dst; rw [if_neg h,if_pos hi])
   go_enter Tryz.func89,Tryz.ntmps89
   go_wp2
   go_ret
   exact ⟨ret_int HE.out.symm,rfl⟩
  ·have HE:=jH (show dst a = a by unfold dst; rw [if_neg h,if_neg hi])
   go_enter Tryz.func89,Tryz.ntmps89
   go_wp2
   go_ret
   exact ⟨ret_int HE.out.symm,rfl⟩
theorem dist_any (a:Int) (w:World) (_h0:-9223372036854775808 <= a) (_h1:a <= 9223372036854775807):Calls Tryz.prog 55 #[.int .i64 a] w fun e w' => e = .returned (.int .i64 (dst a))/\w = w':=by
 by_cases h:a < 0
 ·have HE:=jH (show dst a = 0 by unfold dst; rw [if_pos h])
  go_enter Tryz.func55,Tryz.ntmps55
  go_wp2
  go_ret
  exact ⟨ret_int HE.out.symm,rfl⟩
 ·by_cases hi:4611686018427387904 < a
  ·have HE:=jH (show dst a = 4611686018427387904 by unfold dst; rw [if_neg h,if_pos hi])
   go_enter Tryz.func55,Tryz.ntmps55
   go_wp2
   go_ret
   exact ⟨ret_int HE.out.symm,rfl⟩
  ·have HE:=jH (show dst a = a by unfold dst; rw [if_neg h,if_neg hi])
   go_enter Tryz.func55,Tryz.ntmps55
   go_wp2
   go_ret
   exact ⟨ret_int HE.out.symm,rfl⟩
theorem add_any (a b:Int) (w:World) (h0:-9223372036854775808 <= a) (h1:a <= 9223372036854775807) (h2:-9223372036854775808 <= b) (h3:b <= 9223372036854775807):Calls Tryz.prog 75 #[.int .i64 a,.int .i64 b] w fun e w' => e = .returned (.int .i64 (addI a b))/\w = w':=by
 obtain ⟨A,hA⟩:∃ A,dst a = A:=⟨_,rfl⟩
 obtain ⟨B,hB⟩:∃ B,dst b = B:=⟨_,rfl⟩
 have ga:=dst_in a; have gb:=dst_in b
 rw [hA] at ga; rw [hB] at gb
 obtain ⟨ga0,ga1⟩:=ga; obtain ⟨gb0,gb1⟩:=gb
 have HA:=jH hA; have HB:=jH hB; clear hA hB
 have ca:=fun v:World => distance_any a v h0 h1
 have cb:=fun v:World => distance_any b v h2 h3
 rw [HA.out] at ca; rw [HB.out] at cb
 have CA:=jH ca; have CB:=jH cb; clear ca cb
 by_cases hs:4611686018427387904 < A + B
 ·have HE:=jH (show addI a b = 4611686018427387904 by unfold addI; rw [HA.out,HB.out,if_pos hs])
  go_enter Tryz.func75,Tryz.ntmps75
  go_wp2_with fail
  refine (CA.out _).mono ?_
  rintro e w' ⟨rfl,rfl⟩
  go_wp2_with fail
  refine (CB.out _).mono ?_
  rintro e w' ⟨rfl,rfl⟩
  go_wp2
  all_goals (try (exfalso; omega))
  all_goals (go_ret; exact ⟨ret_int (by rw [HE.out]; try omega),rfl⟩)
 ·have HE:=jH (show addI a b = A + B by unfold addI; rw [HA.out,HB.out,if_neg hs])
  go_enter Tryz.func75,Tryz.ntmps75
  go_wp2_with fail
  refine (CA.out _).mono ?_
  rintro e w' ⟨rfl,rfl⟩
  go_wp2_with fail
  refine (CB.out _).mono ?_
  rintro e w' ⟨rfl,rfl⟩
  go_wp2
  all_goals (try (exfalso; omega))
  all_goals (go_ret; exact ⟨ret_int (by rw [HE.out]; try omega),rfl⟩)
theorem apart_any (a b:Int) (w:World) (h0:-9223372036854775808 <= a) (h1:a <= 9223372036854775807) (h2:-9223372036854775808 <= b) (h3:b <= 9223372036854775807):Calls Tryz.prog 155 #[.int .i64 a,.int .i64 b] w fun e w' => e = .returned (.int .i64 (apt a b))/\w = w':=by
 obtain ⟨A,hA⟩:∃ A,dst a = A:=⟨_,rfl⟩
 obtain ⟨B,hB⟩:∃ B,dst b = B:=⟨_,rfl⟩
 have ga:=dst_in a; have gb:=dst_in b
 rw [hA] at ga; rw [hB] at gb
 obtain ⟨ga0,ga1⟩:=ga; obtain ⟨gb0,gb1⟩:=gb
 have HA:=jH hA; have HB:=jH hB; clear hA hB
 have ca:=fun v:World => distance_any a v h0 h1
 have cb:=fun v:World => distance_any b v h2 h3
 rw [HA.out] at ca; rw [HB.out] at cb
 have CA:=jH ca; have CB:=jH cb; clear ca cb
 by_cases hs:A < B
 ·have HE:=jH (show apt a b = B - A by unfold apt; rw [HA.out,HB.out,if_pos hs])
  go_enter Tryz.func155,Tryz.ntmps155
  go_wp2_with fail
  refine (CA.out _).mono ?_
  rintro e w' ⟨rfl,rfl⟩
  go_wp2_with fail
  refine (CB.out _).mono ?_
  rintro e w' ⟨rfl,rfl⟩
  go_wp2
  all_goals (try (exfalso; omega))
  all_goals (go_ret; exact ⟨ret_int (by rw [HE.out]; try omega),rfl⟩)
 ·have HE:=jH (show apt a b = A - B by unfold apt; rw [HA.out,HB.out,if_neg hs])
  go_enter Tryz.func155,Tryz.ntmps155
  go_wp2_with fail
  refine (CA.out _).mono ?_
  rintro e w' ⟨rfl,rfl⟩
  go_wp2_with fail
  refine (CB.out _).mono ?_
  rintro e w' ⟨rfl,rfl⟩
  go_wp2
  all_goals (try (exfalso; omega))
  all_goals (go_ret; exact ⟨ret_int (by rw [HE.out]; try omega),rfl⟩)
theorem radd_any (a b:Int) (w:World) (h0:-9223372036854775808 <= a) (h1:a <= 9223372036854775807) (h2:-9223372036854775808 <= b) (h3:b <= 9223372036854775807):Calls Tryz.prog 30 #[.int .i64 a,.int .i64 b] w fun e w' => e = .returned (.int .i64 (addI a b))/\w = w':=by
 obtain ⟨A,hA⟩:∃ A,dst a = A:=⟨_,rfl⟩
 obtain ⟨B,hB⟩:∃ B,dst b = B:=⟨_,rfl⟩
 have ga:=dst_in a; have gb:=dst_in b
 rw [hA] at ga; rw [hB] at gb
 obtain ⟨ga0,ga1⟩:=ga; obtain ⟨gb0,gb1⟩:=gb
 have HA:=jH hA; have HB:=jH hB; clear hA hB
 have ca:=fun v:World => dist_any a v h0 h1
 have cb:=fun v:World => dist_any b v h2 h3
 rw [HA.out] at ca; rw [HB.out] at cb
 have CA:=jH ca; have CB:=jH cb; clear ca cb
 by_cases hs:4611686018427387904 < A + B
 ·have HE:=jH (show addI a b = 4611686018427387904 by unfold addI; rw [HA.out,HB.out,if_pos hs])
  go_enter Tryz.func30,Tryz.ntmps30
  go_wp2_with fail
  refine (CA.out _).mono ?_
  rintro e w' ⟨rfl,rfl⟩
  go_wp2_with fail
  refine (CB.out _).mono ?_
  rintro e w' ⟨rfl,rfl⟩
  go_wp2
  all_goals (try (exfalso; omega))
  all_goals (go_ret; exact ⟨ret_int (by rw [HE.out]; try omega),rfl⟩)
 ·have HE:=jH (show addI a b = A + B by unfold addI; rw [HA.out,HB.out,if_neg hs])
  go_enter Tryz.func30,Tryz.ntmps30
  go_wp2_with fail
  refine (CA.out _).mono ?_
  rintro e w' ⟨rfl,rfl⟩
  go_wp2_with fail
  refine (CB.out _).mono ?_
  rintro e w' ⟨rfl,rfl⟩
  go_wp2
  all_goals (try (exfalso; omega))
  all_goals (go_ret; exact ⟨ret_int (by rw [HE.out]; try omega),rfl⟩)
theorem rapart_any (a b:Int) (w:World) (h0:-9223372036854775808 <= a) (h1:a <= 9223372036854775807) (h2:-9223372036854775808 <= b) (h3:b <= 9223372036854775807):Calls Tryz.prog 116 #[.int .i64 a,.int .i64 b] w fun e w' => e = .returned (.int .i64 (apt a b))/\w = w':=by
 obtain ⟨A,hA⟩:∃ A,dst a = A:=⟨_,rfl⟩
 obtain ⟨B,hB⟩:∃ B,dst b = B:=⟨_,rfl⟩
 have ga:=dst_in a; have gb:=dst_in b
 rw [hA] at ga; rw [hB] at gb
 obtain ⟨ga0,ga1⟩:=ga; obtain ⟨gb0,gb1⟩:=gb
 have HA:=jH hA; have HB:=jH hB; clear hA hB
 have ca:=fun v:World => dist_any a v h0 h1
 have cb:=fun v:World => dist_any b v h2 h3
 rw [HA.out] at ca; rw [HB.out] at cb
 have CA:=jH ca; have CB:=jH cb; clear ca cb
 by_cases hs:A < B
 ·have HE:=jH (show apt a b = B - A by unfold apt; rw [HA.out,HB.out,if_pos hs])
  go_enter Tryz.func116,Tryz.ntmps116
  go_wp2_with fail
  refine (CA.out _).mono ?_
  rintro e w' ⟨rfl,rfl⟩
  go_wp2_with fail
  refine (CB.out _).mono ?_
  rintro e w' ⟨rfl,rfl⟩
  go_wp2
  all_goals (try (exfalso; omega))
  all_goals (go_ret; exact ⟨ret_int (by rw [HE.out]; try omega),rfl⟩)
 ·have HE:=jH (show apt a b = A - B by unfold apt; rw [HA.out,HB.out,if_neg hs])
  go_enter Tryz.func116,Tryz.ntmps116
  go_wp2_with fail
  refine (CA.out _).mono ?_
  rintro e w' ⟨rfl,rfl⟩
  go_wp2_with fail
  refine (CB.out _).mono ?_
  rintro e w' ⟨rfl,rfl⟩
  go_wp2
  all_goals (try (exfalso; omega))
  all_goals (go_ret; exact ⟨ret_int (by rw [HE.out]; try omega),rfl⟩)
theorem share_any (a n x e:Int) (w:World) (hx:Hid (shareI a n = (x,e))) (_h0:-9223372036854775808 <= a) (h1:a <= 9223372036854775807) (_h2:-9223372036854775808 <= n) (_h3:n <= 9223372036854775807):Calls Tryz.prog 162 #[.int .i64 a,.int .i64 n] w fun r w' => r = .returned (.tuple #[.int .i64 x,.int .i64 e])/\w = w':=by
 by_cases h:a < 0\/n < 1
 ·rw [shareI_bad a n h] at hx
  obtain ⟨rfl,rfl⟩:0 = x/\2 = e:=by have:=hx.out; simpa using this
  clear hx
  rcases (show a < 0\/(0 <= a/\n < 1) by omega) with ha | ⟨ha,hn⟩
  all_goals
   go_enter Tryz.func162,Tryz.ntmps162
   go_wp2
   go_ret2
   exact ⟨rfl,rfl⟩
 ·have ha:0 <= a:=by omega
  have hn:1 <= n:=by omega
  clear h
  rw [shareI_ok a n ha hn] at hx
  have hr:=share_le a n ha hn
  obtain ⟨h5,h6⟩:a / n = x/\0 = e:=by have:=hx.out; simpa using this
  subst h6
  rw [h5] at hr
  have HE:=jH h5; clear h5 hx
  obtain ⟨h7,h8⟩:=hr
  go_enter Tryz.func162,Tryz.ntmps162
  go_wp2
  all_goals (try (exfalso; omega))
  go_ret2
  exact ⟨ret_two HE.out rfl,rfl⟩
end Go.Proofs.YtdcaekmgfcpbmaaGreat.Fx
namespace Go.Proofs.YtdcaekmgfcpbmaaGreat.Rk
open Go.RowKit Fx
set_option maxRecDepth 100000 in
theorem answered_ok (x:Int) (w:World):Calls Tryz.prog 161 #[.int .i64 x,.int .i64 0] w fun r w' => r = .returned (.tuple #[.int .i64 x,.bool true])/\w = w':=by
 go_enter Tryz.func161,Tryz.ntmps161
 go_wp2
 go_ret2
 exact ⟨rfl,rfl⟩
set_option maxRecDepth 100000 in
theorem answered_no (x:Int) (w:World):Calls Tryz.prog 161 #[.int .i64 x,.int .i64 2] w fun r w' => r = .returned (.tuple #[.int .i64 0,.bool false])/\w = w':=by
 go_enter Tryz.func161,Tryz.ntmps161
 go_wp2
 go_ret2
 exact ⟨rfl,rfl⟩
set_option maxRecDepth 100000 in
theorem give_any (v n g:Int) (w:World) (hg:Hid (giveI v n = g)) (h0:-9223372036854775808 <= v) (h1:v <= 9223372036854775807) (h2:-9223372036854775808 <= n) (h3:n <= 9223372036854775807) :
 Calls Tryz.prog 159 #[.int .i64 v,.int .i64 n] w fun r w' => r = .returned (.int .i64 g)/\w = w':=by
 by_cases hbad:v < 0\/n < 1
 ·have HS:=jH (shareI_bad v n hbad)
  have hg0:=giveI_bad hbad
  rw [hg.out] at hg0
  subst hg0
  clear hbad
  go_enter Tryz.func159,Tryz.ntmps159
  go_wp2_with fail
  refine (share_any v n 0 2 _ HS h0 h1 h2 h3).mono ?_
  rintro r w1 ⟨rfl,rfl⟩
  go_wp2_with fail
  refine (answered_no 0 _).mono ?_
  rintro r w1 ⟨rfl,rfl⟩
  go_wp2
  go_ret
  exact ⟨rfl,rfl⟩
 ·have HS:=jH (shareI_ok v n (by omega) (by omega))
  have hg0:=giveI_ok (v:=v) (n:=n) (by omega) (by omega)
  rw [hg.out] at hg0
  rw [<- hg0] at HS
  clear hbad hg0
  go_enter Tryz.func159,Tryz.ntmps159
  go_wp2_with fail
  refine (share_any v n g 0 _ HS h0 h1 h2 h3).mono ?_
  rintro r w1 ⟨rfl,rfl⟩
  go_wp2_with fail
  refine (answered_ok g _).mono ?_
  rintro r w1 ⟨rfl,rfl⟩
  go_wp2
  go_ret
  exact ⟨rfl,rfl⟩
set_option maxRecDepth 100000 in
theorem start_any (n g:Int) (w:World) (hg:Hid (giveI 4294967296 n = g)) (h2:-9223372036854775808 <= n) (h3:n <= 9223372036854775807) :
 Calls Tryz.prog 160 #[.int .i64 n] w fun r w' => r = .returned (.int .i64 g)/\w = w':=by
 by_cases hbad:n < 1
 ·have HS:=jH (shareI_bad 4294967296 n (Or.inr hbad))
  have hg0:=giveI_bad (v:=4294967296) (Or.inr hbad)
  rw [hg.out] at hg0
  subst hg0
  clear hbad
  go_enter Tryz.func160,Tryz.ntmps160
  go_wp2_with fail
  refine (share_any 4294967296 n 0 2 _ HS (by omega) (by omega) h2 h3).mono ?_
  rintro r w1 ⟨rfl,rfl⟩
  go_wp2_with fail
  refine (answered_no 0 _).mono ?_
  rintro r w1 ⟨rfl,rfl⟩
  go_wp2
  go_ret
  exact ⟨rfl,rfl⟩
 ·have HS:=jH (shareI_ok 4294967296 n (by omega) (by omega))
  have hg0:=giveI_ok (v:=4294967296) (n:=n) (by omega) (by omega)
  rw [hg.out] at hg0
  rw [<- hg0] at HS
  clear hbad hg0
  go_enter Tryz.func160,Tryz.ntmps160
  go_wp2_with fail
  refine (share_any 4294967296 n g 0 _ HS (by omega) (by omega) h2 h3).mono ?_
  rintro r w1 ⟨rfl,rfl⟩
  go_wp2_with fail
  refine (answered_ok g _).mono ?_
  rintro r w1 ⟨rfl,rfl⟩
  go_wp2
  go_ret
  exact ⟨rfl,rfl⟩
set_option maxRecDepth 100000 in
theorem rgive_any (v n g:Int) (w:World) (hg:Hid (giveI v n = g)) (_h0:-9223372036854775808 <= v) (h1:v <= 9223372036854775807) (_h2:-9223372036854775808 <= n) (_h3:n <= 9223372036854775807) :
 Calls Tryz.prog 114 #[.int .i64 v,.int .i64 n] w fun r w' => r = .returned (.int .i64 g)/\w = w':=by
 by_cases hbad:v < 0\/n < 1
 ·have hg0:=giveI_bad hbad
  rw [hg.out] at hg0
  subst hg0
  rcases (show n < 1\/(1 <= n/\v < 0) by omega) with hn | ⟨hn,hv⟩
  all_goals
   clear hbad hg
   go_enter Tryz.func114,Tryz.ntmps114
   go_wp2
   go_ret
   exact ⟨rfl,rfl⟩
 ·have hv:0 <= v:=by omega
  have hn:1 <= n:=by omega
  have hg0:=giveI_ok hv hn
  rw [hg.out] at hg0
  have hr:=share_le v n hv hn
  rw [<- hg0] at hr
  obtain ⟨r0,r1⟩:=hr
  have HE:=jH hg0
  clear hbad hg hg0
  go_enter Tryz.func114,Tryz.ntmps114
  go_wp2
  all_goals (try (exfalso; omega))
  go_ret
  exact ⟨ret_int HE.out.symm,rfl⟩
set_option maxRecDepth 100000 in
theorem rstart_any (n g:Int) (w:World) (hg:Hid (giveI 4294967296 n = g)) (_h2:-9223372036854775808 <= n) (_h3:n <= 9223372036854775807) :
 Calls Tryz.prog 99 #[.int .i64 n] w fun r w' => r = .returned (.int .i64 g)/\w = w':=by
 by_cases hbad:n < 1
 ·have hg0:=giveI_bad (v:=4294967296) (Or.inr hbad)
  rw [hg.out] at hg0
  subst hg0
  clear hg
  go_enter Tryz.func99,Tryz.ntmps99
  go_wp2
  go_ret
  exact ⟨rfl,rfl⟩
 ·have hn:1 <= n:=by omega
  have hg0:=giveI_ok (v:=4294967296) (by omega) hn
  rw [hg.out] at hg0
  have hr:=share_le 4294967296 n (by omega) hn
  rw [<- hg0] at hr
  obtain ⟨r0,r1⟩:=hr
  have HE:=jH hg0
  clear hbad hg hg0
  go_enter Tryz.func99,Tryz.ntmps99
  go_wp2
  all_goals (try (exfalso; omega))
  go_ret
  exact ⟨ret_int HE.out.symm,rfl⟩
end Go.Proofs.YtdcaekmgfcpbmaaGreat.Rk
