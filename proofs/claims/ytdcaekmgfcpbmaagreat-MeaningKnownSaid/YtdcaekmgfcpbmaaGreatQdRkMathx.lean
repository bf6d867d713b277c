/-
  What is proved here: plain facts on numbers in fixed point, distances, and decimal digits. No condition. What is proved here: plain facts on ranks: what is given along all edges is not more than there was, and what all have next is not more than One. No condition.
-/
import Derived.Test.YtdcaekmgfcpbmaaGreatRows
namespace Go.Proofs.YtdcaekmgfcpbmaaGreat.Fx
def dst (a:Int):Int:=if a < 0 then 0 else if 4611686018427387904 < a then 4611686018427387904 else a
def addI (a b:Int):Int:=if 4611686018427387904 < dst a + dst b then 4611686018427387904 else dst a + dst b
def apt (a b:Int):Int:=if dst a < dst b then dst b - dst a else dst a - dst b
def mulI (a b:Int):Int × Int:=if a < 0\/b < 0 then (0,2) else if 4611686018427387904 < a * b / 4294967296 then (0,50) else (a * b / 4294967296,0)
def shareI (a n:Int):Int × Int:=if a < 0\/n < 1 then (0,2) else (a / n,0)
theorem dst_in (a:Int):0 <= dst a/\dst a <= 4611686018427387904:=by unfold dst; split <;> (try split) <;> omega
theorem dst_id (a:Int) (h0:0 <= a) (h1:a <= 4611686018427387904):dst a = a:=by unfold dst; rw [if_neg (by omega),if_neg (by omega)]
theorem dst_ge (a:Int):dst a <= a\/dst a = 0:=by unfold dst; split <;> (try split) <;> omega
theorem dst_le (a:Int):a <= dst a\/dst a = 4611686018427387904:=by unfold dst; split <;> (try split) <;> omega
theorem addI_in (a b:Int):0 <= addI a b/\addI a b <= 4611686018427387904:=by
 have ha:=dst_in a; have hb:=dst_in b
 unfold addI; split <;> omega
theorem addI_comm (a b:Int):addI a b = addI b a:=by
 unfold addI; rw [Int.add_comm]
theorem dst_addI (a b:Int):dst (addI a b) = addI a b:=dst_id _ (addI_in a b).1 (addI_in a b).2
theorem addI_assoc (a b c:Int):addI (addI a b) c = addI a (addI b c):=by
 have ha:=dst_in a; have hb:=dst_in b; have hc:=dst_in c
 have e1:addI (addI a b) c = if 4611686018427387904 < addI a b + dst c then 4611686018427387904 else addI a b + dst c:=by
  rw [show addI (addI a b) c = if 4611686018427387904 < dst (addI a b) + dst c then 4611686018427387904 else dst (addI a b) + dst c from rfl,dst_addI]
 have e2:addI a (addI b c) = if 4611686018427387904 < dst a + addI b c then 4611686018427387904 else dst a + addI b c:=by
  rw [show addI a (addI b c) = if 4611686018427387904 < dst a + dst (addI b c) then 4611686018427387904 else dst a + dst (addI b c) from rfl,dst_addI]
 have e3:addI a b = if 4611686018427387904 < dst a + dst b then 4611686018427387904 else dst a + dst b:=rfl
 have e4:addI b c = if 4611686018427387904 < dst b + dst c then 4611686018427387904 else dst b + dst c:=rfl
 rw [e1,e2,e3,e4]
 repeat' split
 all_goals omega
theorem addI_ge (a b:Int):addI a b = 4611686018427387904\/(a <= addI a b/\b <= addI a b):=by
 have ha:=dst_in a; have hb:=dst_in b
 have ga:=dst_le a; have gb:=dst_le b
 have e3:addI a b = if 4611686018427387904 < dst a + dst b then 4611686018427387904 else dst a + dst b:=rfl
 rw [e3]
 split <;> omega
theorem apt_in (a b:Int):0 <= apt a b/\apt a b <= 4611686018427387904:=by
 have ha:=dst_in a; have hb:=dst_in b
 unfold apt; split <;> omega
theorem mulI_bad (a b:Int) (h:a < 0\/b < 0):mulI a b = (0,2):=by unfold mulI; rw [if_pos h]
theorem mulI_nat (a b:Nat):mulI a b = if 4611686018427387904 < a * b / 4294967296 then (0,50) else (((a * b / 4294967296:Nat):Int),0):=by
 unfold mulI; rw [if_neg (by omega)]
 have e:(a:Int) * (b:Int) / 4294967296 = ((a * b / 4294967296:Nat):Int):=by rw [<- Int.natCast_mul]; omega
 rw [e]
 by_cases h:4611686018427387904 < a * b / 4294967296
 ·rw [if_pos h,if_pos (by omega)]
 ·rw [if_neg h,if_neg (by omega)]
theorem shareI_bad (a n:Int) (h:a < 0\/n < 1):shareI a n = (0,2):=by unfold shareI; rw [if_pos h]
theorem shareI_ok (a n:Int) (h0:0 <= a) (h1:1 <= n):shareI a n = (a / n,0):=by unfold shareI; rw [if_neg (by omega)]
theorem share_mul (a n:Int) (h1:1 <= n):a / n * n <= a/\a - n < a / n * n:=by
 have h:=Int.emod_add_mul_ediv a n
 have h2:=Int.emod_nonneg a (show n ≠ 0 by omega)
 have h3:=Int.emod_lt_of_pos a (show 0 < n by omega)
 rw [Int.mul_comm n (a / n)] at h
 omega
theorem share_le (a n:Int) (h0:0 <= a) (h1:1 <= n):0 <= a / n/\a / n <= a :=
 ⟨Int.ediv_nonneg h0 (by omega),Int.ediv_le_self _ h0⟩
end Go.Proofs.YtdcaekmgfcpbmaaGreat.Fx
namespace Go.Proofs.YtdcaekmgfcpbmaaGreat.Rk
open Fx
def giveI (v n:Int):Int:=if v < 0\/n < 1 then 0 else v / n
def takeI (n d m s:Int):Int:=if n < 1\/d < 0\/4294967296 < d\/m < 0\/s < 0 then 0 else (4294967296 - d) / n + d * addI m (s / n) / 4294967296
theorem giveI_bad {v n:Int} (h:v < 0\/n < 1):giveI v n = 0:=by unfold giveI; rw [if_pos h]
theorem giveI_ok {v n:Int} (h0:0 <= v) (h1:1 <= n):giveI v n = v / n:=by unfold giveI; rw [if_neg (by omega)]
theorem takeI_bad {n d m s:Int} (h:n < 1\/d < 0\/4294967296 < d\/m < 0\/s < 0):takeI n d m s = 0:=by unfold takeI; rw [if_pos h]
theorem takeI_ok {n d m s:Int} (h1:1 <= n) (h2:0 <= d) (h3:d <= 4294967296) (h4:0 <= m) (h5:0 <= s):takeI n d m s = (4294967296 - d) / n + d * addI m (s / n) / 4294967296:=by
 unfold takeI; rw [if_neg (by omega)]
theorem mulI_damp {d a:Int} (h2:0 <= d) (h3:d <= 4294967296) (h4:0 <= a) (h5:a <= 4611686018427387904):mulI d a = (d * a / 4294967296,0)/\0 <= d * a / 4294967296/\d * a / 4294967296 <= 4611686018427387904:=by
 have e1:d * a <= 4294967296 * 4611686018427387904:=Int.mul_le_mul h3 h5 h4 (by omega)
 have e2:0 <= d * a:=Int.mul_nonneg h2 h4
 unfold mulI
 rw [if_neg (by omega),if_neg (by omega)]
 exact ⟨rfl,by omega,by omega⟩
def sm:List Int->Int
 | [] => 0
 | a :: l => a + sm l
def tk (n d s:Int):List Int->Int
 | [] => 0
 | m :: l => takeI n d m s + tk n d s l
theorem sm_snoc:∀ (l:List Int) (a:Int),sm (l ++ [a]) = sm l + a
 | [],a => by simp [sm]
 | b :: l,a => by rw [List.cons_append,sm,sm,sm_snoc l a]; omega
theorem sm_nonneg:∀ l:List Int,(∀ x ∈ l,0 <= x)->0 <= sm l
 | [],_ => by simp [sm]
 | a :: l,h => by
  have:=sm_nonneg l fun x hx => h x (by simp [hx])
  have:=h a (by simp)
  rw [sm]; omega
theorem sm_at:∀ (l:List Int) (k:Nat) (x:Int),(∀ y ∈ l,0 <= y)->l[k]? = some x->0 <= x/\x <= sm l
 | [],_,_,_,hx => by simp at hx
 | a :: l,0,x,h,hx => by
  have h1:=sm_nonneg l fun x hx => h x (by simp [hx])
  have h2:=h a (by simp)
  obtain rfl:a = x:=by simpa using hx
  rw [sm]; omega
 | a :: l,k + 1,x,h,hx => by
  have h1:=sm_at l k x (fun x hx => h x (by simp [hx])) (by simpa using hx)
  have h2:=h a (by simp)
  rw [sm]; omega
theorem addI_le {a b:Int} (h0:0 <= a) (h1:0 <= b):addI a b <= a + b:=by
 have ha:=dst_ge a; have hb:=dst_ge b
 have ga:=dst_in a; have gb:=dst_in b
 unfold addI; split <;> omega
theorem tk_le (n d s:Int) (h1:1 <= n) (h2:0 <= d) (h3:d <= 4294967296) (h5:0 <= s):∀ l:List Int,(∀ x ∈ l,0 <= x) ->
 0 <= tk n d s l/\4294967296 * tk n d s l <= 4294967296 * ((l.length:Int) * ((4294967296 - d) / n)) + d * (sm l + (l.length:Int) * (s / n))
 | [],_ => by simp [tk,sm]
 | m :: l,h => by
  obtain ⟨i0,i1⟩:=tk_le n d s h1 h2 h3 h5 l fun x hx => h x (by simp [hx])
  have hm:=h m (by simp)
  have q0:0 <= s / n:=Int.ediv_nonneg h5 (by omega)
  have b0:0 <= (4294967296 - d) / n:=Int.ediv_nonneg (by omega) (by omega)
  have a1:=addI_le hm q0
  have a0:=addI_in m (s / n)
  obtain ⟨e,f0,_⟩:=mulI_damp h2 h3 a0.1 a0.2
  have f1:d * addI m (s / n) <= d * (m + s / n):=Int.mul_le_mul_of_nonneg_left a1 h2
  rw [tk,takeI_ok h1 h2 h3 hm h5,sm,List.length_cons]
  obtain ⟨b,hb⟩:∃ b,(4294967296 - d) / n = b:=⟨_,rfl⟩
  obtain ⟨q,hq⟩:∃ q,s / n = q:=⟨_,rfl⟩
  rw [hb] at i1 b0 ⊢
  rw [hq] at i1 q0 a1 a0 f0 f1 ⊢
  obtain ⟨L,hL⟩:∃ L:Int,(l.length:Int) = L:=⟨_,rfl⟩
  have c1:((l.length + 1:Nat):Int) * b = L * b + b:=by rw [<- hL]; push_cast; rw [Int.add_mul,Int.one_mul]
  have c2:d * (m + sm l + ((l.length + 1:Nat):Int) * q) = d * (m + q) + d * (sm l + L * q):=by
   rw [<- Int.mul_add,<- hL]; congr 1; push_cast; rw [Int.add_mul,Int.one_mul]; omega
  rw [c1,c2]
  rw [hL] at i1
  obtain ⟨P,hP⟩:∃ P,d * addI m q = P:=⟨_,rfl⟩
  obtain ⟨R,hR⟩:∃ R,d * (m + q) = R:=⟨_,rfl⟩
  obtain ⟨T,hT⟩:∃ T,d * (sm l + L * q) = T:=⟨_,rfl⟩
  obtain ⟨U,hU⟩:∃ U,L * b = U:=⟨_,rfl⟩
  rw [hP] at f0 f1 ⊢
  rw [hR] at f1 ⊢
  rw [hT,hU] at i1
  rw [hT,hU]
  omega
theorem tk_one (n d s:Int) (h1:1 <= n) (h2:0 <= d) (h3:d <= 4294967296) (h5:0 <= s) (l:List Int) (h:∀ x ∈ l,0 <= x) (hl:(l.length:Int) <= n) (hs:sm l + s <= 4294967296):0 <= tk n d s l/\tk n d s l <= 4294967296:=by
 obtain ⟨i0,i1⟩:=tk_le n d s h1 h2 h3 h5 l h
 have q0:0 <= s / n:=Int.ediv_nonneg h5 (by omega)
 have b0:0 <= (4294967296 - d) / n:=Int.ediv_nonneg (by omega) (by omega)
 have q1:=(share_mul s n h1).1
 have b1:=(share_mul (4294967296 - d) n h1).1
 have c1:(l.length:Int) * ((4294967296 - d) / n) <= n * ((4294967296 - d) / n):=Int.mul_le_mul_of_nonneg_right hl b0
 have c2:(l.length:Int) * (s / n) <= n * (s / n):=Int.mul_le_mul_of_nonneg_right hl q0
 rw [Int.mul_comm n] at c1 c2
 have e0:=sm_nonneg l h
 have e1:d * (sm l + (l.length:Int) * (s / n)) <= d * 4294967296:=Int.mul_le_mul_of_nonneg_left (by omega) h2
 omega
end Go.Proofs.YtdcaekmgfcpbmaaGreat.Rk
