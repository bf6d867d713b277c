/-
  What is proved here: contracts of the library's functions that package fixed calls: math/bits.Mul64 (out of the library's own theorem over any program), and math/bits.Div64 by 2^32 (walked here). Condition of the latter: what is divided has fewer than 2^96. What is proved here: the contract of package fixed's Mul: the product, or why there is none. No condition. What is proved here: the contract of the document's own Mul: the product, or why there is none. No condition. What is proved here: contracts of package rank's Take, and of the document's own. No condition.
-/
import Derived.Test.YtdcaekmgfcpbmaaGreatQdRkW1x
import Derived.Shelf.Bits.Mul64
import Derived.Laws.Bits64b
import Derived.Lib.BitFns
import Derived.Deep.CutRange
import Derived.Deep.QuietTactic
import Derived.BigQuiet
import Derived.IntWalk
namespace Go.Proofs
open Go.Shelf
def Tryz.lays264_ren:Go.Shelf.Ren:=⟨fun | 264 => 164 | n => n,fun | 46 => 178 | 53 => 176 | n => n,fun | n => n⟩
theorem Tryz.lays264:Go.Proofs.Lays.n264 Tryz.prog Tryz.lays264_ren:={
 mixed:=by kernel_rfl
 f264:=Tryz.func164.trans (congrArg some (by kernel_rfl))
 t46:=Tryz.underlying178
 a46:=Tryz.isAgg178
 z46:=Tryz.sizeOf178
 v46:=Tryz.zeroValue178
 t53:=Tryz.underlying176
 a53:=Tryz.isAgg176
 z53:=Tryz.sizeOf176
 v53:=Tryz.zeroValue176 }
open Go.RowKit in
theorem Tryz.bits_Mul64 (x y:Nat) (hx:x < 18446744073709551616) (hy:y < 18446744073709551616) (w:World) :
 Calls Tryz.prog 164 #[.int .u64 x,.int .u64 y] w fun e w' => e = .returned (.tuple #[.int .u64 ((x * y / 18446744073709551616:Nat):Int),.int .u64 ((x * y % 18446744073709551616:Nat):Int)])/\w' = w:=Any.bits_Mul64 Tryz.lays264 x y hx hy w
namespace YtdcaekmgfcpbmaaGreat.Fx
open Go.RowKit
theorem below_drewN {B:Nat} {a w:World} (h:Below B a w) (n:Nat):Below B a (w.drewN n):=⟨h.os,h.tape,h.output,h.size,h.block⟩
set_option maxRecDepth 100000 in
set_option maxHeartbeats 1000000 in
theorem len_33 (x:Int) (w:World) (h0:4294967296 <= x) (h1:x < 8589934592) (h:Hid (x = 4294967296)):Calls Tryz.prog 167 #[.int .u64 x] w fun e w' => e = .returned (.int .i64 33)/\w = w':=by
 have hi:∀ w:World,(Instr.index 9 (.string Lib.len8tab) (.int .u8 (x / 4294967296))).run Tryz.prog w = .ok (.int .u8 1) w:=by rw [h.out]; exact fun _ => by kernel_rfl
 go_enter Tryz.func167,Tryz.ntmps167
 go_wp2
 go_ret
 exact ⟨rfl,rfl⟩
set_option maxRecDepth 100000 in
theorem leading (x:Int) (w:World) (h0:4294967296 <= x) (h1:x < 8589934592) (h:Hid (x = 4294967296)):Calls Tryz.prog 166 #[.int .u64 x] w fun e w' => e = .returned (.int .i64 31)/\w = w':=by
 go_enter Tryz.func166,Tryz.ntmps166
 go_wp2_with fail
 refine (len_33 x _ h0 h1 h).mono ?_
 rintro e w' ⟨rfl,rfl⟩
 go_wp2
 go_ret
 exact ⟨rfl,rfl⟩
set_option maxRecDepth 100000 in
set_option maxHeartbeats 1000000 in
theorem div_low (l:Nat) (w:World) (hl:l < 18446744073709551616):Calls Tryz.prog 165 #[.int .u64 0,.int .u64 (l:Int),.int .u64 4294967296] w fun e w' => e = .returned (.tuple #[.int .u64 ((l / 4294967296:Nat):Int),.int .u64 ((l % 4294967296:Nat):Int)])/\Below w.heap.size w w':=by
 go_enter Tryz.func165,Tryz.ntmps165
 go_wp2_with fail
 go_quiet (fail)
 go_wp2
 go_ret2
 exact ⟨ret_two (by omega) (by omega),below_drewN (Below.refl _ _) _⟩
theorem wrap_chain (x b y v:Int) (h:x + b - y = v) (h0:0 <= v) (h1:v < 18446744073709551616) :
 IntKind.u64.wrap (IntKind.u64.wrap (IntKind.u64.wrap x + b) - IntKind.u64.wrap y) = v:=by
 rw [IntKind.wrap_u64,IntKind.wrap_u64,IntKind.wrap_u64,IntKind.wrap_u64,Int.emod_add_emod,<- Int.sub_emod,h]
 exact Int.emod_eq_of_lt h0 h1
theorem shift_or (h c:Nat) (hc:c < 2147483648) (hh:h < 4294967296):bits .or .u64 ((h:Int) * 2147483648) (c:Int) = ((h * 2147483648 + c:Nat):Int):=by
 have:=bits_or_u64_nat (h * 2147483648) c (by omega) (by omega)
 rw [Int.natCast_mul] at this
 rw [show (2147483648:Int) = ((2147483648:Nat):Int) from rfl,this]
 have e:h * 2147483648 ||| c = h * 2147483648 + c:=by
  rw [Nat.mul_comm,show (2147483648:Nat) = 2 ^ 31 from rfl]
  exact (Nat.two_pow_add_eq_or_of_lt (show c < 2 ^ 31 by simpa using hc) h).symm
 rw [e]
set_option maxRecDepth 100000 in
set_option maxHeartbeats 1000000 in
theorem div_high (h l:Nat) (y:Int) (w:World) (h0:0 < h) (h1:h < 4294967296) (hl:l < 18446744073709551616) (y0:4294967296 <= y) (y1:y < 8589934592) (hy:Hid (y = 4294967296)):Calls Tryz.prog 165 #[.int .u64 (h:Int),.int .u64 (l:Int),.int .u64 y] w fun e w' => e = .returned (.tuple #[.int .u64 ((h * 4294967296 + l / 4294967296:Nat):Int),.int .u64 ((l % 4294967296:Nat):Int)])/\w = w':=by
 obtain ⟨K,k0,k1,hK⟩:∃ K:Int,2147483648 <= K/\K < 2147483649/\9223372036854775808 / 4294967296 = K:=⟨2147483648,by omega,by omega,rfl⟩
 obtain ⟨Y,Y0,Y1,hY⟩:∃ Y:Int,9223372036854775808 <= Y/\Y < 9223372036854775809/\y * 2147483648 = Y:=⟨9223372036854775808,by omega,by omega,by rw [hy.out]; rfl⟩
 obtain ⟨c,hc,hc1⟩:∃ c:Nat,l / 8589934592 = c/\c < 2147483648:=⟨_,rfl,by omega⟩
 obtain ⟨A,hA,hA1⟩:∃ A:Nat,h * 2147483648 + c = A/\A < 9223372036854775808:=⟨_,rfl,by omega⟩
 obtain ⟨B,hB,hB1⟩:∃ B:Nat,l % 8589934592 / 2 = B/\B < 4294967296:=⟨_,rfl,by omega⟩
 obtain ⟨D,hD,hD1⟩:∃ D:Nat,l % 2 * 2147483648 = D/\D < 4294967296:=⟨_,rfl,by omega⟩
 have hYv:Y = 9223372036854775808:=by omega
 have e1:bits .and .u64 Y 4294967295 = 0:=by rw [hYv]; decide +kernel
 have e0:Y / 4294967296 = K:=by rw [hYv]; exact hK
 have e00:(0:Int) <= A - h * 2147483648/\(A:Int) - h * 2147483648 = c:=by omega
 obtain ⟨Pr,hP,hP1⟩:∃ Pr:Nat,h * 2147483648 = Pr/\Pr <= A:=⟨_,rfl,by omega⟩
 have e2:bits .or .u64 ((h:Int) * 2147483648) ((l:Int) / 8589934592) = (A:Int):=by
  rw [show (l:Int) / 8589934592 = (c:Int) by omega,shift_or h c hc1 h1,hA]
 have e3:IntKind.u64.wrap ((l:Int) * 2147483648) / 4294967296 = (B:Int):=by rw [IntKind.wrap_u64]; omega
 have e4:bits .and .u64 (IntKind.u64.wrap ((l:Int) * 2147483648)) 4294967295 = (D:Int):=by
  have g:IntKind.u64.wrap ((l:Int) * 2147483648) = ((l * 2147483648 % 18446744073709551616:Nat):Int):=by rw [IntKind.wrap_u64]; omega
  rw [g,Mul64.maskN _ (by omega)]
  omega
 have E0:=jH e0; have E1:=jH e1; have E2:=jH e2; have E3:=jH e3; have E4:=jH e4; have E5:=jH hY
 have HC:=jH hc; have HA:=jH hA; have HB:=jH hB; have HD:=jH hD
 clear hK e0 e1 e2 e3 e4 hc hA hB hD hY hYv e00
 have hKv:K = 2147483648:=by omega
 have e6:(A:Int) / K = (h:Int):=by rw [hKv]; have:=HA.out; omega
 have e7:(h:Int) * K = (Pr:Int):=by rw [hKv]; omega
 have e8:(A:Int) - (Pr:Int) = (c:Int):=by have:=HA.out; omega
 obtain ⟨L,hL,hL1⟩:∃ L:Nat,l / 2 = L/\L < 9223372036854775808:=⟨_,rfl,by omega⟩
 obtain ⟨Q,hQ,hQ1⟩:∃ Q:Nat,l / 4294967296 = Q/\Q < 4294967296:=⟨_,rfl,by omega⟩
 obtain ⟨S,hS,hS1⟩:∃ S:Nat,Q * 2147483648 = S/\S <= L:=⟨_,rfl,by omega⟩
 obtain ⟨R,hR,hR1⟩:∃ R:Nat,L - S = R/\R < 2147483648:=⟨_,rfl,by omega⟩
 obtain ⟨F,hF,hF1⟩:∃ F:Nat,l % 4294967296 * 2147483648 = F/\F < 9223372036854775808:=⟨_,rfl,by omega⟩
 have e9:IntKind.u64.wrap (IntKind.u64.wrap (IntKind.u64.wrap ((A:Int) * 4294967296) + (B:Int)) - IntKind.u64.wrap ((h:Int) * Y)) = (L:Int):=by
  have hYv:Y = 9223372036854775808:=by omega
  have h1:=HA.out; have h2:=HB.out; have h3:=HC.out
  refine wrap_chain _ _ _ _ ?_ (by omega) (by omega)
  rw [hYv]; omega
 have e10:(L:Int) / K = (Q:Int):=by rw [hKv]; omega
 have e11:(Q:Int) * K = (S:Int):=by rw [hKv]; omega
 have e12:(L:Int) - (S:Int) = (R:Int):=by omega
 have e13:IntKind.u64.wrap (IntKind.u64.wrap (IntKind.u64.wrap ((L:Int) * 4294967296) + (D:Int)) - IntKind.u64.wrap ((Q:Int) * Y)) = (F:Int):=by
  have hYv:Y = 9223372036854775808:=by omega
  have h1:=HD.out
  refine wrap_chain _ _ _ _ ?_ (by omega) (by omega)
  rw [hYv]; omega
 have E9:=jH e9; have E10:=jH e10; have E11:=jH e11; have E12:=jH e12; have E13:=jH e13
 have HL:=jH hL; have HQ:=jH hQ; have HS:=jH hS; have HR:=jH hR; have HF:=jH hF
 have HP:=jH hP; clear hP hKv e9 e10 e11 e12 e13 hL hQ hS hR hF
 go_enter Tryz.func165,Tryz.ntmps165
 go_wp2_with fail
 refine (leading _ _ y0 y1 hy).mono ?_
 rintro e w' ⟨rfl,rfl⟩
 go_upto_region 15 with (fail)
 simp only [E5.out]
 simp only [E0.out,E1.out,E2.out,E3.out,E4.out]
 go_wp2_with fail
 go_loopg [15,16] 0 (fun _ q r wr => q = .int .u64 (h:Int)/\r = .int .u64 (c:Int)/\w = wr)
 case atStart => exact ⟨rfl,rfl,rfl⟩
 case round =>
  obtain ⟨rfl,rfl,rfl⟩:=hrel
  clear e6 e7 e8
  have t1:decide ((4294967296:Int) <= (h:Int)) = false:=by simp; omega
  have e9:=E9.out; have e10:=E10.out; have e11:=E11.out; have e12:=E12.out
  go_wp2_with fail
  all_goals (try (exfalso; omega))
  clear t1 e9 e10 e11 e12
  go_loopg [18,16] 0 (fun _ q r wr => q = .int .u64 (Q:Int)/\r = .int .u64 (R:Int)/\w = wr)
  case atStart => exact ⟨rfl,rfl,rfl⟩
  case round =>
   obtain ⟨rfl,rfl,rfl⟩:=hrel
   have t1:decide ((4294967296:Int) <= (Q:Int)) = false:=by simp; omega
   have e13:=E13.out
   go_wp2_with fail
   all_goals (try (exfalso; omega))
   go_ret2
   clear e13 t1
   refine ⟨ret_two ?_ ?_,rfl⟩
   ·rw [<- HQ.out]; omega
   ·have:=HF.out; omega
theorem div_any (h l:Nat) (w:World) (h1:h < 4294967296) (hl:l < 18446744073709551616):Calls Tryz.prog 165 #[.int .u64 (h:Int),.int .u64 (l:Int),.int .u64 4294967296] w fun e w' => e = .returned (.tuple #[.int .u64 ((h * 4294967296 + l / 4294967296:Nat):Int),.int .u64 ((l % 4294967296:Nat):Int)])/\Below w.heap.size w w':=by
 by_cases h0:h = 0
 ·subst h0
  refine (div_low l w hl).mono fun e w' ⟨he,hb⟩ => ⟨?_,hb⟩
  rw [he,Nat.zero_mul,Nat.zero_add]
 ·refine (div_high h l 4294967296 w (by omega) h1 hl (by omega) (by omega) (jH rfl)).mono fun e w' ⟨he,hb⟩ => ⟨he,?_⟩
  rw [<- hb]; exact Below.refl _ _
theorem div_at (h l q r:Nat) (w:World) (h1:h < 4294967296) (hl:l < 18446744073709551616) (hq:Hid (h * 4294967296 + l / 4294967296 = q)) (hr:Hid (l % 4294967296 = r)):Calls Tryz.prog 165 #[.int .u64 (h:Int),.int .u64 (l:Int),.int .u64 4294967296] w fun e w' => e = .returned (.tuple #[.int .u64 (q:Int),.int .u64 (r:Int)])/\Below w.heap.size w w':=by
 rw [<- hq.out,<- hr.out]; exact div_any h l w h1 hl
theorem mul_at (x y h l:Nat) (hx:x < 18446744073709551616) (hy:y < 18446744073709551616) (w:World) (hh:Hid (x * y / 18446744073709551616 = h)) (hl:Hid (x * y % 18446744073709551616 = l)):Calls Tryz.prog 164 #[.int .u64 x,.int .u64 y] w fun e w' => e = .returned (.tuple #[.int .u64 (h:Int),.int .u64 (l:Int)])/\w = w':=by
 refine (Tryz.bits_Mul64 x y hx hy w).mono fun e w' ⟨he,hw⟩ => ⟨?_,hw.symm⟩
 rw [he,hh.out,hl.out]
end YtdcaekmgfcpbmaaGreat.Fx
end Go.Proofs
namespace Go.Proofs.YtdcaekmgfcpbmaaGreat.Fx
open Go.RowKit
set_option maxRecDepth 100000 in
theorem mul_any (a b x e:Int) (w:World) (hx:Hid (mulI a b = (x,e))) (_h0:-9223372036854775808 <= a) (h1:a <= 9223372036854775807) (_h2:-9223372036854775808 <= b) (h3:b <= 9223372036854775807):Calls Tryz.prog 163 #[.int .i64 a,.int .i64 b] w fun r w' => r = .returned (.tuple #[.int .i64 x,.int .i64 e])/\Below w.heap.size w w':=by
 by_cases h:a < 0\/b < 0
 ·rw [mulI_bad a b h] at hx
  obtain ⟨rfl,rfl⟩:0 = x/\2 = e:=by have:=hx.out; simpa using this
  clear hx
  rcases (show a < 0\/(0 <= a/\b < 0) by omega) with ha | ⟨ha,hb⟩
  all_goals
   go_enter Tryz.func163,Tryz.ntmps163
   go_wp2
   go_ret2
   exact ⟨rfl,Below.refl _ _⟩
 ·obtain ⟨m,rfl⟩:∃ m:Nat,a = (m:Int):=⟨a.toNat,by omega⟩
  obtain ⟨n,rfl⟩:∃ n:Nat,b = (n:Int):=⟨b.toNat,by omega⟩
  have hm:m < 9223372036854775808:=by omega
  have hn:n < 9223372036854775808:=by omega
  clear h _h0 h1 _h2 h3
  have hmn:m * n < 9223372036854775808 * 9223372036854775808:=Nat.mul_lt_mul'' hm hn
  rw [mulI_nat] at hx
  obtain ⟨M,hM⟩:∃ M,m * n = M:=⟨_,rfl⟩
  rw [hM] at hx hmn
  obtain ⟨H,hH,hH1⟩:∃ H:Nat,M / 18446744073709551616 = H/\H < 18446744073709551616:=⟨_,rfl,by omega⟩
  obtain ⟨L,hL,hL1⟩:∃ L:Nat,M % 18446744073709551616 = L/\L < 18446744073709551616:=⟨_,rfl,by omega⟩
  obtain ⟨Q,hQ⟩:∃ Q:Nat,H * 4294967296 + L / 4294967296 = Q:=⟨_,rfl⟩
  have hQM:M / 4294967296 = Q:=by omega
  rw [hQM] at hx
  have HH:=jH (show m * n / 18446744073709551616 = H by rw [hM]; exact hH)
  have HL:=jH (show m * n % 18446744073709551616 = L by rw [hM]; exact hL)
  have HQ:=jH hQ
  by_cases hb:H < 4294967296
  ·have hQ1:Q < 18446744073709551616:=by omega
   clear hM hH hL hQ hQM hmn
   have t1:decide ((4294967296:Int) <= (H:Int)) = false:=by simp; omega
   by_cases hi:4611686018427387904 < Q
   ·rw [if_pos hi] at hx
    obtain ⟨rfl,rfl⟩:0 = x/\50 = e:=by have:=hx.out; simpa using this
    have t2:decide ((4611686018427387904:Int) < (Q:Int)) = true:=by simp; omega
    go_enter Tryz.func163,Tryz.ntmps163
    go_wp2_with fail
    refine (mul_at m n H L (by omega) (by omega) _ HH HL).mono ?_
    rintro r w' ⟨rfl,rfl⟩
    go_wp2_with fail
    refine (div_at H L Q _ _ hb hL1 HQ (jH rfl)).mono ?_
    rintro r w' ⟨rfl,hbl⟩
    have HB:=jH hbl; clear hbl
    go_wp2
    go_ret2
    exact ⟨rfl,HB.out⟩
   ·rw [if_neg hi] at hx
    obtain ⟨rfl,rfl⟩:(Q:Int) = x/\0 = e:=by have:=hx.out; simpa using this
    have t2:decide ((4611686018427387904:Int) < (Q:Int)) = false:=by simp; omega
    go_enter Tryz.func163,Tryz.ntmps163
    go_wp2_with fail
    refine (mul_at m n H L (by omega) (by omega) _ HH HL).mono ?_
    rintro r w' ⟨rfl,rfl⟩
    go_wp2_with fail
    refine (div_at H L Q _ _ hb hL1 HQ (jH rfl)).mono ?_
    rintro r w' ⟨rfl,hbl⟩
    have HB:=jH hbl; clear hbl
    go_wp2
    go_ret2
    exact ⟨rfl,HB.out⟩
  ·have hi:4611686018427387904 < Q:=by omega
   rw [if_pos hi] at hx
   obtain ⟨rfl,rfl⟩:0 = x/\50 = e:=by have:=hx.out; simpa using this
   clear hM hH hL hQ hQM hmn hi
   have t1:decide ((4294967296:Int) <= (H:Int)) = true:=by simp; omega
   go_enter Tryz.func163,Tryz.ntmps163
   go_wp2_with fail
   refine (mul_at m n H L (by omega) (by omega) _ HH HL).mono ?_
   rintro r w' ⟨rfl,rfl⟩
   go_wp2
   go_ret2
   exact ⟨rfl,Below.refl _ _⟩
open Go.RowKit
def RmRel (Q x1 x2 x3 g:Nat) (i s:Value):Prop:=∃ S:Nat,s = .int .i64 (S:Int)/\S <= 4611686018427387904/\((g = 3/\i = .int .i64 0/\S + x1 + x2 + x3 = Q)\/(g = 2/\i = .int .i64 1/\S + x2 + x3 = Q)\/(g = 1/\i = .int .i64 2/\S + x3 = Q)\/(g = 0/\i = .int .i64 3/\S = Q))
theorem mul_split (m n p q r s:Nat) (hp:m / 4294967296 = p) (hq:m % 4294967296 = q) (hr:n / 4294967296 = r) (hs:n % 4294967296 = s) :
 m * n / 4294967296 = p * r * 4294967296 + p * s + q * r + q * s / 4294967296:=by
 have hm:m = p * 4294967296 + q:=by omega
 have hn:n = r * 4294967296 + s:=by omega
 have e:=Lib.split_mul p q r s 4294967296
 rw [hm,hn,e]
 generalize p * r = a; generalize p * s = b; generalize q * r = c; generalize q * s = d
 omega
theorem div_test (p r:Nat) (h:0 < p):(1073741824 / p < r->1073741824 < p * r)/\(¬ 1073741824 / p < r->p * r <= 1073741824):=by
 have h1:=Nat.div_add_mod 1073741824 p
 have h2:=Nat.mod_lt 1073741824 h
 constructor
 ·intro g
  have:p * (1073741824 / p + 1) <= p * r:=Nat.mul_le_mul_left p g
  rw [Nat.mul_add,Nat.mul_one] at this
  omega
 ·intro g
  have:p * r <= p * (1073741824 / p):=Nat.mul_le_mul_left p (by omega)
  omega
set_option maxRecDepth 100000 in
set_option maxHeartbeats 2000000 in
theorem rmul_any (a b x e:Int) (w:World) (hx:Hid (mulI a b = (x,e))) (_h0:-9223372036854775808 <= a) (h1:a <= 9223372036854775807) (_h2:-9223372036854775808 <= b) (h3:b <= 9223372036854775807):Calls Tryz.prog 118 #[.int .i64 a,.int .i64 b] w fun r w' => r = .returned (.tuple #[.int .i64 x,.int .i64 e])/\Below w.heap.size w w':=by
 by_cases h:a < 0\/b < 0
 ·rw [mulI_bad a b h] at hx
  obtain ⟨rfl,rfl⟩:0 = x/\2 = e:=by have:=hx.out; simpa using this
  clear hx
  rcases (show a < 0\/(0 <= a/\b < 0) by omega) with ha | ⟨ha,hb⟩
  all_goals
   go_enter Tryz.func118,Tryz.ntmps118
   go_wp2
   go_ret2
   exact ⟨rfl,Below.refl _ _⟩
 ·obtain ⟨m,rfl⟩:∃ m:Nat,a = (m:Int):=⟨a.toNat,by omega⟩
  obtain ⟨n,rfl⟩:∃ n:Nat,b = (n:Int):=⟨b.toNat,by omega⟩
  have hm:m < 9223372036854775808:=by omega
  have hn:n < 9223372036854775808:=by omega
  clear h _h0 h1 _h2 h3
  rw [mulI_nat] at hx
  obtain ⟨Q,hQ⟩:∃ Q,m * n / 4294967296 = Q:=⟨_,rfl⟩
  rw [hQ] at hx
  obtain ⟨p,hp,hp1⟩:∃ p:Nat,m / 4294967296 = p/\p < 2147483648:=⟨_,rfl,by omega⟩
  obtain ⟨q,hq,hq1⟩:∃ q:Nat,m % 4294967296 = q/\q < 4294967296:=⟨_,rfl,by omega⟩
  obtain ⟨r,hr,hr1⟩:∃ r:Nat,n / 4294967296 = r/\r < 2147483648:=⟨_,rfl,by omega⟩
  obtain ⟨s,hs,hs1⟩:∃ s:Nat,n % 4294967296 = s/\s < 4294967296:=⟨_,rfl,by omega⟩
  have hall:=mul_split m n p q r s hp hq hr hs
  rw [hQ] at hall
  have b1:p * s < 2147483648 * 4294967296:=Nat.mul_lt_mul'' hp1 hs1
  have b2:q * r < 4294967296 * 2147483648:=Nat.mul_lt_mul'' hq1 hr1
  have b3:q * s < 4294967296 * 4294967296:=Nat.mul_lt_mul'' hq1 hs1
  have dt:=div_test p r
  have pz:p = 0->p * r = 0:=fun h => by rw [h,Nat.zero_mul]
  obtain ⟨PR,hPR⟩:∃ PR,p * r = PR:=⟨_,rfl⟩
  obtain ⟨x1,hx1⟩:∃ x1,p * s = x1:=⟨_,rfl⟩
  obtain ⟨x2,hx2⟩:∃ x2,q * r = x2:=⟨_,rfl⟩
  obtain ⟨y3,hy3⟩:∃ y3,q * s = y3:=⟨_,rfl⟩
  rw [hPR] at dt pz
  rw [hPR,hx1,hx2,hy3] at hall
  rw [hx1] at b1; rw [hx2] at b2; rw [hy3] at b3
  obtain ⟨x3,hx3,b4⟩:∃ x3,y3 / 4294967296 = x3/\x3 < 4294967296:=⟨_,rfl,by omega⟩
  rw [hx3] at hall
  have f1:(m:Int) / 4294967296 = (p:Int):=by omega
  have f2:(m:Int) % 4294967296 = (q:Int):=by omega
  have f3:(n:Int) / 4294967296 = (r:Int):=by omega
  have f4:(n:Int) % 4294967296 = (s:Int):=by omega
  have f5:(p:Int) * (r:Int) = (PR:Int):=by rw [<- Int.natCast_mul,hPR]
  have f6:(p:Int) * (s:Int) = (x1:Int):=by rw [<- Int.natCast_mul,hx1]
  have f7:(q:Int) * (r:Int) = (x2:Int):=by rw [<- Int.natCast_mul,hx2]
  have f8:(q:Int) * (s:Int) = (y3:Int):=by rw [<- Int.natCast_mul,hy3]
  have f9:(y3:Int) / 4294967296 = (x3:Int):=by omega
  have HA:=jH hall
  clear hQ hp hq hr hs hall hPR hx1 hx2 hy3 hx3
  by_cases hov:0 < p/\1073741824 / p < r
  ·have hbig:=(dt hov.1).1 hov.2
   obtain ⟨hp0,hpr⟩:=hov
   rw [if_pos (show 4611686018427387904 < Q by have:=HA.out; omega)] at hx
   obtain ⟨rfl,rfl⟩:0 = x/\50 = e:=by have:=hx.out; simpa using this
   obtain ⟨U,hU⟩:∃ U,1073741824 / p = U:=⟨_,rfl⟩
   rw [hU] at hpr
   have f10:(1073741824:Int) / (p:Int) = (U:Int):=by rw [<- hU]; rfl
   clear hU dt pz
   go_enter Tryz.func118,Tryz.ntmps118
   go_wp2_with fail
   go_quiet (fail)
   go_wp2
   go_ret2
   exact ⟨rfl,below_drewN (Below.refl _ _) _⟩
  ·have hPR1:PR <= 1073741824:=by
    by_cases hp0:p = 0
    ·rw [pz hp0]; omega
    ·exact (dt (by omega)).2 (fun g => hov ⟨by omega,g⟩)
   obtain ⟨U,hU⟩:∃ U,1073741824 / p = U:=⟨_,rfl⟩
   rw [hU] at hov
   have f10:(1073741824:Int) / (p:Int) = (U:Int):=by rw [<- hU]; rfl
   obtain ⟨S0,hS0⟩:∃ S0,PR * 4294967296 = S0:=⟨_,rfl⟩
   have f11:(PR:Int) * 4294967296 = (S0:Int):=by omega
   have g0:S0 <= 4611686018427387904:=by omega
   have HA:=jH (show S0 + x1 + x2 + x3 = Q by rw [HA.out,hS0])
   clear hU dt pz hS0
   by_cases hp0:0 < p
   ·have hpr:¬ U < r:=fun g => hov ⟨hp0,g⟩
    clear hov
    go_enter Tryz.func118,Tryz.ntmps118
    go_wp2_with fail
    go_quiet (fail)
    obtain ⟨w1,hw1⟩:∃ w1,w.drewN nq = w1:=⟨_,rfl⟩
    have HB1:=jH (show Below w.heap.size w w1 by rw [<- hw1]; exact below_drewN (Below.refl _ w) nq)
    rw [hw1]
    clear hw1
    go_wp2_with fail
    go_loopg [12,67] 3 (fun g s i wr => RmRel Q x1 x2 x3 g i s/\wr = w1.alloc (.cells #[.int .u64 (x1:Int),.int .u64 (x2:Int),.int .u64 (x3:Int)] 176))
    case atStart => exact ⟨⟨S0,rfl,g0,Or.inl ⟨rfl,rfl,HA.out⟩⟩,rfl⟩
    case round =>
     obtain ⟨⟨S,rfl,hS,hall⟩,rfl⟩:=hrel
     clear f1 f2 f3 f4 f5 f6 f7 f8 f9 f10 f11
     have HB:=jH (show Below w.heap.size w (w1.alloc (.cells #[.int .u64 (x1:Int),.int .u64 (x2:Int),.int .u64 (x3:Int)] 176)) from HB1.out.alloc HB1.out.size _)
     rcases hall with ⟨rfl,rfl,hall⟩ | ⟨rfl,rfl,hall⟩ | ⟨rfl,rfl,hall⟩ | ⟨rfl,rfl,hall⟩
     ·by_cases ho:4611686018427387904 - S < x1
      ·rw [if_pos (show 4611686018427387904 < Q by omega)] at hx
       obtain ⟨rfl,rfl⟩:0 = x/\50 = e:=by have:=hx.out; simpa using this
       have t1:decide (4611686018427387904 - (S:Int) < (x1:Int)) = true:=by simp; omega
       clear hall
       go_wp2
       go_ret2
       exact ⟨rfl,HB.out⟩
      ·have t1:decide (4611686018427387904 - (S:Int) < (x1:Int)) = false:=by simp; omega
       have HE:=jH hall; clear hall
       go_wp2
       go_roundg 2
       case measure => omega
       case rel => exact ⟨⟨S + x1,by go_num,by omega,Or.inr (Or.inl ⟨rfl,rfl,HE.out⟩)⟩,rfl⟩
     ·by_cases ho:4611686018427387904 - S < x2
      ·rw [if_pos (show 4611686018427387904 < Q by omega)] at hx
       obtain ⟨rfl,rfl⟩:0 = x/\50 = e:=by have:=hx.out; simpa using this
       have t1:decide (4611686018427387904 - (S:Int) < (x2:Int)) = true:=by simp; omega
       clear hall
       go_wp2
       go_ret2
       exact ⟨rfl,HB.out⟩
      ·have t1:decide (4611686018427387904 - (S:Int) < (x2:Int)) = false:=by simp; omega
       have HE:=jH hall; clear hall
       go_wp2
       go_roundg 1
       case measure => omega
       case rel => exact ⟨⟨S + x2,by go_num,by omega,Or.inr (Or.inr (Or.inl ⟨rfl,rfl,HE.out⟩))⟩,rfl⟩
     ·by_cases ho:4611686018427387904 - S < x3
      ·rw [if_pos (show 4611686018427387904 < Q by omega)] at hx
       obtain ⟨rfl,rfl⟩:0 = x/\50 = e:=by have:=hx.out; simpa using this
       have t1:decide (4611686018427387904 - (S:Int) < (x3:Int)) = true:=by simp; omega
       clear hall
       go_wp2
       go_ret2
       exact ⟨rfl,HB.out⟩
      ·have t1:decide (4611686018427387904 - (S:Int) < (x3:Int)) = false:=by simp; omega
       have HE:=jH hall; clear hall
       go_wp2
       go_roundg 0
       case measure => omega
       case rel => exact ⟨⟨S + x3,by go_num,by omega,Or.inr (Or.inr (Or.inr ⟨rfl,rfl,HE.out⟩))⟩,rfl⟩
     ·rw [if_neg (show ¬ 4611686018427387904 < Q by omega)] at hx
      obtain ⟨rfl,rfl⟩:(Q:Int) = x/\0 = e:=by have:=hx.out; simpa using this
      subst hall
      go_wp2
      go_ret2
      exact ⟨rfl,HB.out⟩
   ·obtain rfl:p = 0:=by omega
    clear hov hp0 f10
    have f5:(PR:Int) = 0:=by rw [<- f5]; simp
    obtain rfl:x1 = 0:=by have:=f6; simp at this; omega
    clear f6 b1
    obtain rfl:S0 = 0:=by omega
    clear f11
    go_enter Tryz.func118,Tryz.ntmps118
    go_wp2_with fail
    go_quiet (fail)
    obtain ⟨w1,hw1⟩:∃ w1,w.drewN nq = w1:=⟨_,rfl⟩
    have HB1:=jH (show Below w.heap.size w w1 by rw [<- hw1]; exact below_drewN (Below.refl _ w) nq)
    rw [hw1]
    clear hw1
    go_wp2_with fail
    go_loopg [12,67] 3 (fun g s i wr => RmRel Q 0 x2 x3 g i s/\wr = w1.alloc (.cells #[.int .u64 (0:Int),.int .u64 (x2:Int),.int .u64 (x3:Int)] 176))
    case atStart => exact ⟨⟨0,rfl,g0,Or.inl ⟨rfl,rfl,HA.out⟩⟩,rfl⟩
    case round =>
     obtain ⟨⟨S,rfl,hS,hall⟩,rfl⟩:=hrel
     clear f1 f2 f3 f4 f5 f7 f8 f9
     have HB:=jH (show Below w.heap.size w (w1.alloc (.cells #[.int .u64 (0:Int),.int .u64 (x2:Int),.int .u64 (x3:Int)] 176)) from HB1.out.alloc HB1.out.size _)
     rcases hall with ⟨rfl,rfl,hall⟩ | ⟨rfl,rfl,hall⟩ | ⟨rfl,rfl,hall⟩ | ⟨rfl,rfl,hall⟩
     ·by_cases ho:4611686018427387904 - S < 0
      ·rw [if_pos (show 4611686018427387904 < Q by omega)] at hx
       obtain ⟨rfl,rfl⟩:0 = x/\50 = e:=by have:=hx.out; simpa using this
       have t1:decide (4611686018427387904 - (S:Int) < (0:Int)) = true:=by simp; omega
       clear hall
       go_wp2
       go_ret2
       exact ⟨rfl,HB.out⟩
      ·have t1:decide (4611686018427387904 - (S:Int) < (0:Int)) = false:=by simp; omega
       have HE:=jH hall; clear hall
       go_wp2
       go_roundg 2
       case measure => omega
       case rel => exact ⟨⟨S + 0,by go_num,by omega,Or.inr (Or.inl ⟨rfl,rfl,HE.out⟩)⟩,rfl⟩
     ·by_cases ho:4611686018427387904 - S < x2
      ·rw [if_pos (show 4611686018427387904 < Q by omega)] at hx
       obtain ⟨rfl,rfl⟩:0 = x/\50 = e:=by have:=hx.out; simpa using this
       have t1:decide (4611686018427387904 - (S:Int) < (x2:Int)) = true:=by simp; omega
       clear hall
       go_wp2
       go_ret2
       exact ⟨rfl,HB.out⟩
      ·have t1:decide (4611686018427387904 - (S:Int) < (x2:Int)) = false:=by simp; omega
       have HE:=jH hall; clear hall
       go_wp2
       go_roundg 1
       case measure => omega
       case rel => exact ⟨⟨S + x2,by go_num,by omega,Or.inr (Or.inr (Or.inl ⟨rfl,rfl,HE.out⟩))⟩,rfl⟩
     ·by_cases ho:4611686018427387904 - S < x3
      ·rw [if_pos (show 4611686018427387904 < Q by omega)] at hx
       obtain ⟨rfl,rfl⟩:0 = x/\50 = e:=by have:=hx.out; simpa using this
       have t1:decide (4611686018427387904 - (S:Int) < (x3:Int)) = true:=by simp; omega
       clear hall
       go_wp2
       go_ret2
       exact ⟨rfl,HB.out⟩
      ·have t1:decide (4611686018427387904 - (S:Int) < (x3:Int)) = false:=by simp; omega
       have HE:=jH hall; clear hall
       go_wp2
       go_roundg 0
       case measure => omega
       case rel => exact ⟨⟨S + x3,by go_num,by omega,Or.inr (Or.inr (Or.inr ⟨rfl,rfl,HE.out⟩))⟩,rfl⟩
     ·rw [if_neg (show ¬ 4611686018427387904 < Q by omega)] at hx
      obtain ⟨rfl,rfl⟩:(Q:Int) = x/\0 = e:=by have:=hx.out; simpa using this
      subst hall
      go_wp2
      go_ret2
      exact ⟨rfl,HB.out⟩
end Go.Proofs.YtdcaekmgfcpbmaaGreat.Fx
namespace Go.Proofs.YtdcaekmgfcpbmaaGreat.Rk
open Go.RowKit Fx
theorem addr_hid (a b V:Int) (w:World) (hV:Hid (addI a b = V)) (h0:-9223372036854775808 <= a) (h1:a <= 9223372036854775807) (h2:-9223372036854775808 <= b) (h3:b <= 9223372036854775807):Calls Tryz.prog 75 #[.int .i64 a,.int .i64 b] w fun e w' => e = .returned (.int .i64 V)/\w = w':=by
 rw [<- hV.out]; exact add_any a b w h0 h1 h2 h3
theorem raddr_hid (a b V:Int) (w:World) (hV:Hid (addI a b = V)) (h0:-9223372036854775808 <= a) (h1:a <= 9223372036854775807) (h2:-9223372036854775808 <= b) (h3:b <= 9223372036854775807):Calls Tryz.prog 30 #[.int .i64 a,.int .i64 b] w fun e w' => e = .returned (.int .i64 V)/\w = w':=by
 rw [<- hV.out]; exact radd_any a b w h0 h1 h2 h3
theorem mulr_hid (a b x e:Int) (w:World) (hx:Hid (mulI a b = (x,e))) (h0:-9223372036854775808 <= a) (h1:a <= 9223372036854775807) (h2:-9223372036854775808 <= b) (h3:b <= 9223372036854775807):Calls Tryz.prog 163 #[.int .i64 a,.int .i64 b] w fun r w' => r = .returned (.tuple #[.int .i64 x,.int .i64 e])/\Hid (Below w.heap.size w w') :=
 (mul_any a b x e w hx h0 h1 h2 h3).mono fun _ _ ⟨h,g⟩ => ⟨h,jH g⟩
theorem rmulr_hid (a b x e:Int) (w:World) (hx:Hid (mulI a b = (x,e))) (h0:-9223372036854775808 <= a) (h1:a <= 9223372036854775807) (h2:-9223372036854775808 <= b) (h3:b <= 9223372036854775807):Calls Tryz.prog 118 #[.int .i64 a,.int .i64 b] w fun r w' => r = .returned (.tuple #[.int .i64 x,.int .i64 e])/\Hid (Below w.heap.size w w') :=
 (rmul_any a b x e w hx h0 h1 h2 h3).mono fun _ _ ⟨h,g⟩ => ⟨h,jH g⟩
theorem take_parts {n d m s:Int} (h1:1 <= n) (h2:0 <= d) (h3:d <= 4294967296) (h4:0 <= m) (h5:0 <= s) :
 ∃ b q a x:Int,shareI (4294967296 - d) n = (b,0)/\shareI s n = (q,0)/\s / n = q/\(4294967296 - d) / n = b/\addI m q = a/\mulI d a = (x,0)/\takeI n d m s = b + x/\0 <= b/\b <= 4294967296/\0 <= q/\q <= s/\0 <= a/\a <= 4611686018427387904/\0 <= x/\x <= 4611686018427387904:=by
 have hb:=share_le (4294967296 - d) n (by omega) h1
 have hq:=share_le s n h5 h1
 have ha:=addI_in m (s / n)
 obtain ⟨hx,x0,x1⟩:=mulI_damp h2 h3 ha.1 ha.2
 exact ⟨_,_,_,_,shareI_ok _ n (by omega) h1,shareI_ok s n h5 h1,rfl,rfl,rfl,hx,takeI_ok h1 h2 h3 h4 h5,hb.1,by omega,hq.1,hq.2,ha.1,ha.2,x0,x1⟩
set_option maxRecDepth 100000 in
set_option maxHeartbeats 1000000 in
theorem take_any (n d m s V:Int) (w:World) (hV:Hid (takeI n d m s = V)) (h0:-9223372036854775808 <= n) (h1:n <= 9223372036854775807) (h2:-9223372036854775808 <= d) (h3:d <= 9223372036854775807) (h4:-9223372036854775808 <= m) (h5:m <= 9223372036854775807) (h6:-9223372036854775808 <= s) (h7:s <= 9223372036854775807) :
 Calls Tryz.prog 156 #[.int .i64 n,.int .i64 d,.int .i64 m,.int .i64 s] w fun r w' => r = .returned (.int .i64 V)/\Hid (Below w.heap.size w w'):=by
 by_cases hd:d < 0\/4294967296 < d\/m < 0
 ·have hv:=takeI_bad (n:=n) (d:=d) (m:=m) (s:=s) (by omega)
  rw [hV.out] at hv
  subst hv
  rcases (show d < 0\/(0 <= d/\4294967296 < d)\/(0 <= d/\d <= 4294967296/\m < 0) by omega) with g1 | ⟨g1,g2⟩ | ⟨g1,g2,g3⟩
  all_goals
   clear hd hV
   go_enter Tryz.func156,Tryz.ntmps156
   go_wp2
   go_ret
   exact ⟨rfl,jH (Below.refl _ _)⟩
 ·have d0:0 <= d:=by omega
  have d1:d <= 4294967296:=by omega
  have m0:0 <= m:=by omega
  clear hd
  by_cases hn:n < 1
  ·have hv:=takeI_bad (n:=n) (d:=d) (m:=m) (s:=s) (by omega)
   rw [hV.out] at hv
   subst hv
   have S1:=jH (shareI_bad (4294967296 - d) n (Or.inr hn))
   have S2:=jH (shareI_bad s n (Or.inr hn))
   obtain ⟨a,ha⟩:∃ a,addI m 0 = a:=⟨_,rfl⟩
   have a0:=addI_in m 0
   rw [ha] at a0
   obtain ⟨a0,a1⟩:=a0
   obtain ⟨x,hx⟩:∃ x,d * a / 4294967296 = x:=⟨_,rfl⟩
   have hm:=(mulI_damp d0 d1 a0 a1).1
   rw [hx] at hm
   have HA:=jH ha; have HM:=jH hm
   clear ha hx hm hn hV
   go_enter Tryz.func156,Tryz.ntmps156
   go_wp2_with fail
   refine (share_any _ n 0 2 _ S1 (by omega) (by omega) h0 h1).mono ?_
   rintro r w1 ⟨rfl,rfl⟩
   go_wp2_with fail
   refine (answered_no 0 _).mono ?_
   rintro r w1 ⟨rfl,rfl⟩
   go_wp2_with fail
   refine (share_any s n 0 2 _ S2 h6 h7 h0 h1).mono ?_
   rintro r w1 ⟨rfl,rfl⟩
   go_wp2_with fail
   refine (answered_no 0 _).mono ?_
   rintro r w1 ⟨rfl,rfl⟩
   go_wp2_with fail
   refine (addr_hid m 0 a _ HA h4 h5 (by omega) (by omega)).mono ?_
   rintro r w1 ⟨rfl,rfl⟩
   go_wp2_with fail
   refine (mulr_hid d a x 0 _ HM h2 h3 (by omega) (by omega)).mono ?_
   rintro r w2 ⟨rfl,HB⟩
   go_wp2_with fail
   refine (answered_ok x _).mono ?_
   rintro r w1 ⟨rfl,rfl⟩
   go_wp2
   go_ret
   exact ⟨rfl,HB⟩
  ·have n1:1 <= n:=by omega
   clear hn
   by_cases hs:s < 0
   ·have hv:=takeI_bad (n:=n) (d:=d) (m:=m) (s:=s) (by omega)
    rw [hV.out] at hv
    subst hv
    have S1:=jH (shareI_ok (4294967296 - d) n (by omega) n1)
    have hb:=share_le (4294967296 - d) n (by omega) n1
    obtain ⟨b,hbb⟩:∃ b,(4294967296 - d) / n = b:=⟨_,rfl⟩
    rw [hbb] at S1 hb
    have S2:=jH (shareI_bad s n (Or.inl hs))
    obtain ⟨a,ha⟩:∃ a,addI m 0 = a:=⟨_,rfl⟩
    have a0:=addI_in m 0
    rw [ha] at a0
    obtain ⟨a0,a1⟩:=a0
    obtain ⟨x,hx⟩:∃ x,d * a / 4294967296 = x:=⟨_,rfl⟩
    have hm:=(mulI_damp d0 d1 a0 a1).1
    rw [hx] at hm
    have HA:=jH ha; have HM:=jH hm
    obtain ⟨b0,b1⟩:=hb
    clear ha hx hm hs hV hbb
    go_enter Tryz.func156,Tryz.ntmps156
    go_wp2_with fail
    refine (share_any _ n b 0 _ S1 (by omega) (by omega) h0 h1).mono ?_
    rintro r w1 ⟨rfl,rfl⟩
    go_wp2_with fail
    refine (answered_ok b _).mono ?_
    rintro r w1 ⟨rfl,rfl⟩
    go_wp2_with fail
    refine (share_any s n 0 2 _ S2 h6 h7 h0 h1).mono ?_
    rintro r w1 ⟨rfl,rfl⟩
    go_wp2_with fail
    refine (answered_no 0 _).mono ?_
    rintro r w1 ⟨rfl,rfl⟩
    go_wp2_with fail
    refine (addr_hid m 0 a _ HA h4 h5 (by omega) (by omega)).mono ?_
    rintro r w1 ⟨rfl,rfl⟩
    go_wp2_with fail
    refine (mulr_hid d a x 0 _ HM h2 h3 (by omega) (by omega)).mono ?_
    rintro r w2 ⟨rfl,HB⟩
    go_wp2_with fail
    refine (answered_ok x _).mono ?_
    rintro r w1 ⟨rfl,rfl⟩
    go_wp2
    go_ret
    exact ⟨rfl,HB⟩
   ·obtain ⟨b,q,a,x,s1,s2,_,_,ha,hm,hv,b0,b1,q0,q1,a0,a1,x0,x1⟩:=take_parts n1 d0 d1 m0 (show 0 <= s by omega)
    rw [hV.out] at hv
    have S1:=jH s1; have S2:=jH s2; have HA:=jH ha; have HM:=jH hm; have HVV:=jH hv
    clear s1 s2 ha hm hv hV hs
    go_enter Tryz.func156,Tryz.ntmps156
    go_wp2_with fail
    refine (share_any _ n b 0 _ S1 (by omega) (by omega) h0 h1).mono ?_
    rintro r w1 ⟨rfl,rfl⟩
    go_wp2_with fail
    refine (answered_ok b _).mono ?_
    rintro r w1 ⟨rfl,rfl⟩
    go_wp2_with fail
    refine (share_any s n q 0 _ S2 h6 h7 h0 h1).mono ?_
    rintro r w1 ⟨rfl,rfl⟩
    go_wp2_with fail
    refine (answered_ok q _).mono ?_
    rintro r w1 ⟨rfl,rfl⟩
    go_wp2_with fail
    refine (addr_hid m q a _ HA h4 h5 (by omega) (by omega)).mono ?_
    rintro r w1 ⟨rfl,rfl⟩
    go_wp2_with fail
    refine (mulr_hid d a x 0 _ HM h2 h3 (by omega) (by omega)).mono ?_
    rintro r w2 ⟨rfl,HB⟩
    go_wp2_with fail
    refine (answered_ok x _).mono ?_
    rintro r w1 ⟨rfl,rfl⟩
    go_wp2
    go_ret
    exact ⟨ret_int HVV.out.symm,HB⟩
set_option maxRecDepth 100000 in
set_option maxHeartbeats 1000000 in
theorem rtake_any (n d m s V:Int) (w:World) (hV:Hid (takeI n d m s = V)) (_h0:-9223372036854775808 <= n) (h1:n <= 9223372036854775807) (h2:-9223372036854775808 <= d) (h3:d <= 9223372036854775807) (h4:-9223372036854775808 <= m) (h5:m <= 9223372036854775807) (_h6:-9223372036854775808 <= s) (h7:s <= 9223372036854775807) :
 Calls Tryz.prog 106 #[.int .i64 n,.int .i64 d,.int .i64 m,.int .i64 s] w fun r w' => r = .returned (.int .i64 V)/\Hid (Below w.heap.size w w'):=by
 by_cases hd:n < 1\/d < 0\/4294967296 < d\/m < 0\/s < 0
 ·have hv:=takeI_bad (n:=n) (d:=d) (m:=m) (s:=s) hd
  rw [hV.out] at hv
  subst hv
  rcases (show n < 1\/(1 <= n/\d < 0)\/(1 <= n/\0 <= d/\4294967296 < d)\/(1 <= n/\0 <= d/\d <= 4294967296/\m < 0)\/(1 <= n/\0 <= d/\d <= 4294967296/\0 <= m/\s < 0) by omega) with g1 | ⟨g1,g2⟩ | ⟨g1,g2,g3⟩ | ⟨g1,g2,g3,g4⟩ | ⟨g1,g2,g3,g4,g5⟩
  all_goals
   clear hd hV
   go_enter Tryz.func106,Tryz.ntmps106
   go_wp2
   go_ret
   exact ⟨rfl,jH (Below.refl _ _)⟩
 ·have n1:1 <= n:=by omega
  have d0:0 <= d:=by omega
  have d1:d <= 4294967296:=by omega
  have m0:0 <= m:=by omega
  have s0:0 <= s:=by omega
  obtain ⟨b,q,a,x,s1,s2,hq,hb,ha,hm,hv,b0,b1,q0,q1,a0,a1,x0,x1⟩:=take_parts n1 d0 d1 m0 s0
  rw [hV.out] at hv
  have t1:IntKind.i64.wrap (s.tdiv n) = q:=by rw [Int.tdiv_eq_ediv_of_nonneg s0,hq]; exact IntWalk.i64_in _ (by omega)
  have t2:IntKind.i64.wrap ((4294967296 - d).tdiv n) = b:=by rw [Int.tdiv_eq_ediv_of_nonneg (by omega),hb]; exact IntWalk.i64_in _ (by omega)
  have HQ:=jH hq; have HBB:=jH hb
  have HA:=jH ha; have HM:=jH hm; have HVV:=jH hv
  clear s1 s2 ha hm hv hV hd hq hb
  go_enter Tryz.func106,Tryz.ntmps106
  go_wp2_with fail
  refine (raddr_hid m q a _ HA h4 h5 (by omega) (by omega)).mono ?_
  rintro r w1 ⟨rfl,rfl⟩
  go_wp2_with fail
  refine (rmulr_hid d a x 0 _ HM h2 h3 (by omega) (by omega)).mono ?_
  rintro r w2 ⟨rfl,HB⟩
  go_wp2
  go_ret
  exact ⟨ret_int HVV.out.symm,HB⟩
end Go.Proofs.YtdcaekmgfcpbmaaGreat.Rk
