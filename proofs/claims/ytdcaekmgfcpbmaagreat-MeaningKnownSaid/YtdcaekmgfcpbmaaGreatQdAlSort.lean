/-
  What is proved here: plain facts on rows whose parts are turned about, merged where they stand, and sorted by vertices. No program.
-/
import Derived.Test.YtdcaekmgfcpbmaaGreatQdInMathx
import Derived.Sort.LotA
namespace Go.Proofs.YtdcaekmgfcpbmaaGreat.Al
open Go.Sort
def ltm (x y:Ms):Bool:=decide (x.1 < y.1)
theorem swo_ltm:SWO ltm where
 irrefl x:=by simp [ltm]
 trans x y z h k:=by simp only [ltm,decide_eq_true_eq] at *; omega
 ntrans x y z h k:=by simp only [ltm,decide_eq_false_iff_not] at *; omega
def Srt (a b:Nat) (d:Array Ms):Prop:=∀ i j,a <= i->i < j->j < b->d[i]!.1 <= d[j]!.1
theorem srt_of {a b:Nat} {d:Array Ms} (h:SortedIn ltm a b d):Srt a b d:=fun i j h1 h2 h3 => by
 have:=h i j h1 h2 h3; simp only [ltm,decide_eq_false_iff_not] at this; omega
theorem Srt.part {a b a' b':Nat} {d:Array Ms} (h:Srt a b d) (ha:a <= a') (hb:b' <= b):Srt a' b' d:=fun i j h1 h2 h3 => h i j (by omega) h2 (by omega)
theorem Srt.le {a b:Nat} {d:Array Ms} (h:Srt a b d) {i j:Nat} (h1:a <= i) (h2:i <= j) (h3:j < b):d[i]!.1 <= d[j]!.1:=by
 rcases Nat.lt_or_ge i j with g | g
 ·exact h i j h1 g h3
 ·have:i = j:=by omega
  subst this; omega
theorem Srt.kept {a b a' b':Nat} {d d':Array Ms} (h:Srt a' b' d) (k:PermIn a b d d') (hab:b' <= a\/b <= a'):Srt a' b' d':=fun i j h1 h2 h3 => by
 rw [k.2.1 i (by omega),k.2.1 j (by omega)]; exact h i j h1 h2 h3
theorem srt_one (a b:Nat) (d:Array Ms) (h:b <= a + 1):Srt a b d:=fun i j h1 h2 h3 => by omega
theorem ins_srt (d:Array Ms) (a b:Nat) (hab:a <= b) (hb:b <= d.size):PermIn a b d (insertionSort ltm d a b)/\Srt a b (insertionSort ltm d a b):=by
 obtain ⟨h1,h2⟩:=insertionSort_holds swo_ltm d a b hab hb
 exact ⟨h1,srt_of h2⟩
theorem pin_refl (a b:Nat) (d:Array Ms):PermIn a b d d:=permIn_refl d a b
theorem pin_trans {a b:Nat} {d e f:Array Ms} (h:PermIn a b d e) (k:PermIn a b e f):PermIn a b d f:=permIn_trans d e f a b h k
theorem pin_wide {a b a' b':Nat} {d e:Array Ms} (h:PermIn a b d e) (ha:a' <= a) (hb:b <= b') (hs:b' <= d.size):PermIn a' b' d e:=permIn_mono d e a b a' b' ha hb hs h
theorem pin_swp {d:Array Ms} {a b i j:Nat} (h1:a <= i) (h2:i < b) (h3:a <= j) (h4:j < b) (hb:b <= d.size):PermIn a b d (swp d i j):=swp_permIn d a b i j h1 h2 h3 h4 hb
def Swr (a b n:Nat) (d e:Array Ms):Prop:=e.size = d.size/\(∀ t,e[t]! = if a <= t/\t < a + n then d[t + (b - a)]! else if b <= t/\t < b + n then d[t - (b - a)]! else d[t]!) /\
 ∀ lo hi,lo <= a->b + n <= hi->hi <= d.size->PermIn lo hi d e
theorem swr_zero (a b:Nat) (d:Array Ms):Swr a b 0 d d:=⟨rfl,fun t => by rw [if_neg (by omega),if_neg (by omega)],fun _ _ _ _ _ => pin_refl _ _ _⟩
theorem swr_step {a b i:Nat} {d e:Array Ms} (h:Swr a b i d e) (hab:a + i < b) (hb:b + i < d.size):Swr a b (i + 1) d (swp e (a + i) (b + i)):=by
 obtain ⟨h1,h2,h3⟩:=h
 refine ⟨by rw [size_swp,h1],fun t => ?_,fun lo hi g1 g2 g3 => pin_trans (h3 lo hi g1 (by omega) g3) (pin_swp (by omega) (by omega) (by omega) (by omega) (by omega))⟩
 have ea:e[a + i]! = d[a + i]!:=by rw [h2,if_neg (by omega),if_neg (by omega)]
 have eb:e[b + i]! = d[b + i]!:=by rw [h2,if_neg (by omega),if_neg (by omega)]
 rw [swp_get e (by omega) (by omega),ea,eb]
 by_cases t1:t = b + i
 ·rw [if_pos t1,if_neg (by omega),if_pos (by omega)]
  congr 1; omega
 ·rw [if_neg t1]
  by_cases t2:t = a + i
  ·rw [if_pos t2,if_pos (by omega)]
   congr 1; omega
  ·rw [if_neg t2,h2]
   by_cases t3:a <= t/\t < a + i
   ·rw [if_pos t3,if_pos (by omega)]
   ·rw [if_neg t3,if_neg (show ¬ (a <= t/\t < a + (i + 1)) by omega)]
    by_cases t4:b <= t/\t < b + i
    ·rw [if_pos t4,if_pos (by omega)]
    ·rw [if_neg t4,if_neg (by omega)]
def Rot (a m b:Nat) (d e:Array Ms):Prop:=e.size = d.size/\(∀ t,e[t]! = if a <= t/\t < a + (b - m) then d[t + (m - a)]! else if a + (b - m) <= t/\t < b then d[t - (b - m)]! else d[t]!) /\
 ∀ lo hi,lo <= a->b <= hi->hi <= d.size->PermIn lo hi d e
theorem rot_none {a m b:Nat} (d:Array Ms) (h1:a <= m) (h2:m <= b) (h:a = m\/m = b):Rot a m b d d:=⟨rfl,fun t => by
 rcases h with h | h
 ·subst h
  by_cases t1:a <= t/\t < a + (b - a)
  ·rw [if_pos t1,Nat.sub_self]; rfl
  ·rw [if_neg t1,if_neg (by omega)]
 ·subst h
  rw [if_neg (by omega)]
  by_cases t1:a + (m - m) <= t/\t < m
  ·rw [if_pos t1,Nat.sub_self]; rfl
  ·rw [if_neg t1],fun _ _ _ _ _ => pin_refl _ _ _⟩
theorem rot_same {m i:Nat} {d e:Array Ms} (hi:i <= m) (h:Swr (m - i) m i d e):Rot (m - i) m (m + i) d e:=by
 obtain ⟨h1,h2,h3⟩:=h
 refine ⟨h1,fun t => ?_,fun lo hi g1 g2 g3 => h3 lo hi g1 (by omega) g3⟩
 rw [h2]
 by_cases t1:m - i <= t/\t < m - i + i
 ·rw [if_pos t1,if_pos (by omega)]
 ·rw [if_neg t1,if_neg (show ¬ (m - i <= t/\t < m - i + (m + i - m)) by omega)]
  by_cases t2:m <= t/\t < m + i
  ·rw [if_pos t2,if_pos (by omega)]; congr 1; omega
  ·rw [if_neg t2,if_neg (by omega)]
theorem rot_left {m i j:Nat} {d e f:Array Ms} (hi:i <= m) (hj:j < i) (h:Swr (m - i) m j d e) (k:Rot (m - (i - j)) m (m + j) e f):Rot (m - i) m (m + j) d f:=by
 obtain ⟨h1,h2,h3⟩:=h
 obtain ⟨k1,k2,k3⟩:=k
 refine ⟨k1.trans h1,fun t => ?_,fun lo hi g1 g2 g3 => pin_trans (h3 lo hi g1 (by omega) g3) (k3 lo hi (by omega) g2 (by omega))⟩
 rw [k2]
 by_cases t1:m - i <= t/\t < m - i + j
 ·rw [if_neg (by omega),if_neg (by omega),h2,if_pos t1,if_pos (by omega)]
 ·rw [if_neg (show ¬ (m - i <= t/\t < m - i + (m + j - m)) by omega)]
  by_cases t2:m - (i - j) <= t/\t < m - (i - j) + (m + j - m)
  ·rw [if_pos t2,h2]
   by_cases t3:t + (m - (m - (i - j))) < m
   ·omega
   ·rw [if_neg (by omega),if_pos (by omega),if_pos (by omega)]; congr 1; omega
  ·rw [if_neg t2]
   by_cases t3:m - (i - j) + (m + j - m) <= t/\t < m + j
   ·rw [if_pos t3,if_pos (by omega),h2]
    by_cases t4:m - i <= t - (m + j - m)/\t - (m + j - m) < m - i + j
    ·omega
    ·rw [if_neg t4,if_neg (by omega)]
   ·rw [if_neg t3,if_neg (by omega),h2,if_neg t1,if_neg (by omega)]
theorem rot_right {m i j:Nat} {d e f:Array Ms} (hi:i <= m) (hj:i < j) (h:Swr (m - i) (m + j - i) i d e) (k:Rot (m - i) m (m + (j - i)) e f):Rot (m - i) m (m + j) d f:=by
 obtain ⟨h1,h2,h3⟩:=h
 obtain ⟨k1,k2,k3⟩:=k
 refine ⟨k1.trans h1,fun t => ?_,fun lo hi g1 g2 g3 => pin_trans (h3 lo hi g1 (by omega) g3) (k3 lo hi (by omega) (by omega) (by omega))⟩
 rw [k2]
 by_cases t1:m - i <= t/\t < m - i + (m + (j - i) - m)
 ·rw [if_pos t1,if_pos (by omega),h2,if_neg (by omega),if_neg (by omega)]
 ·rw [if_neg t1]
  by_cases t2:m - i + (m + (j - i) - m) <= t/\t < m + (j - i)
  ·rw [if_pos t2,h2,if_pos (by omega),if_pos (by omega)]; congr 1; omega
  ·rw [if_neg t2,h2]
   by_cases t3:m + j - i <= t/\t < m + j - i + i
   ·rw [if_neg (by omega),if_pos t3,if_neg (by omega),if_pos (by omega)]; congr 1; omega
   ·rw [if_neg (by omega),if_neg t3,if_neg (by omega),if_neg (by omega)]
def Mrg (a b:Nat) (d e:Array Ms):Prop:=PermIn a b d e/\Srt a b e
theorem mrg_first {a i b:Nat} {d e:Array Ms} (hi:a + 1 <= i) (hib:i <= b) (hs:Srt (a + 1) b d) (hp:PermIn a b d e)
 (h1:i = a + 1\/d[i - 1]!.1 < d[a]!.1) (h2:i = b\/d[a]!.1 <= d[i]!.1) (h3:∀ t,a <= t->t < i - 1->e[t]! = d[t + 1]!) (h4:e[i - 1]! = d[a]!) (h5:∀ t,i <= t->e[t]! = d[t]!):Mrg a b d e:=by
 refine ⟨hp,fun x y g1 g2 g3 => ?_⟩
 by_cases y1:y < i - 1
 ·rw [h3 x g1 (by omega),h3 y (by omega) y1]
  exact hs.le (by omega) (by omega) (by omega)
 ·by_cases y2:y = i - 1
  ·subst y2
   rw [h4,h3 x g1 g2]
   rcases h1 with h1 | h1
   ·omega
   ·have:=hs.le (i:=x + 1) (j:=i - 1) (by omega) (by omega) (by omega); omega
  ·rw [h5 y (by omega)]
   have hy:d[a]!.1 <= d[y]!.1:=by
    rcases h2 with h2 | h2
    ·omega
    ·have:=hs.le (i:=i) (j:=y) (by omega) (by omega) g3; omega
   by_cases x1:x < i - 1
   ·rw [h3 x g1 x1]; exact hs.le (by omega) (by omega) g3
   ·by_cases x2:x = i - 1
    ·subst x2; rw [h4]; exact hy
    ·rw [h5 x (by omega)]; exact hs.le (by omega) (by omega) g3
theorem mrg_last {a i m:Nat} {d e:Array Ms} (hi:a <= i) (him:i <= m) (hs:Srt a m d) (hp:PermIn a (m + 1) d e)
 (h1:i = a\/d[i - 1]!.1 <= d[m]!.1) (h2:i = m\/d[m]!.1 < d[i]!.1) (h3:∀ t,i < t->t <= m->e[t]! = d[t - 1]!) (h4:e[i]! = d[m]!) (h5:∀ t,t < i->e[t]! = d[t]!):Mrg a (m + 1) d e:=by
 refine ⟨hp,fun x y g1 g2 g3 => ?_⟩
 have lo:∀ x,a <= x->x < i->d[x]!.1 <= d[m]!.1:=fun x q1 q2 => by
  rcases h1 with h1 | h1
  ·omega
  ·have:=hs.le (i:=x) (j:=i - 1) (by omega) (by omega) (by omega); omega
 have up:∀ y,i <= y->y < m->d[m]!.1 <= d[y]!.1:=fun y q1 q2 => by
  rcases h2 with h2 | h2
  ·omega
  ·have:=hs.le (i:=i) (j:=y) (by omega) (by omega) (by omega); omega
 by_cases y1:y < i
 ·rw [h5 x (by omega),h5 y y1]; exact hs.le (by omega) (by omega) (by omega)
 ·by_cases y2:y = i
  ·subst y2; rw [h4,h5 x g2]; exact lo x g1 g2
  ·rw [h3 y (by omega) (by omega)]
   by_cases x1:x < i
   ·rw [h5 x x1]; exact hs.le (by omega) (by omega) (by omega)
   ·by_cases x2:x = i
    ·subst x2; rw [h4]; exact up _ (by omega) (by omega)
    ·rw [h3 x (by omega) (by omega)]; exact hs.le (by omega) (by omega) (by omega)
theorem mrg_split {a s m mid n b:Nat} {d e:Array Ms} (hn:n = mid + m - s) (h0:a <= s) (h1:s <= m) (h2:m <= n) (h3:n <= b) (hsm:s <= mid) (hmn:mid <= n) (hL:Srt a m d) (hR:Srt m b d) (hr:Rot s m n d e)
 (hlo:s = a\/n = b\/d[s - 1]!.1 <= d[n]!.1) (hup:s = m\/n = m\/d[n - 1]!.1 < d[s]!.1) :
 Srt a s e/\Srt s mid e/\Srt mid n e/\Srt n b e/\∀ i j,a <= i->i < mid->mid <= j->j < b->e[i]!.1 <= e[j]!.1:=by
 obtain ⟨_,r2,_⟩:=hr
 have eA:∀ t,t < s->e[t]! = d[t]!:=fun t ht => by rw [r2,if_neg (by omega),if_neg (by omega)]
 have eB:∀ t,s <= t->t < mid->e[t]! = d[t + (m - s)]!:=fun t g1 g2 => by rw [r2,if_pos (by omega)]
 have eC:∀ t,mid <= t->t < n->e[t]! = d[t - (n - m)]!:=fun t g1 g2 => by rw [r2,if_neg (by omega),if_pos (by omega)]
 have eD:∀ t,n <= t->e[t]! = d[t]!:=fun t ht => by rw [r2,if_neg (by omega),if_neg (by omega)]
 refine ⟨fun i j g1 g2 g3 => ?_,fun i j g1 g2 g3 => ?_,fun i j g1 g2 g3 => ?_,fun i j g1 g2 g3 => ?_,fun i j g1 g2 g3 g4 => ?_⟩
 ·rw [eA i (by omega),eA j g3]; exact hL.le (by omega) (by omega) (by omega)
 ·rw [eB i g1 (by omega),eB j (by omega) g3]; exact hR.le (by omega) (by omega) (by omega)
 ·rw [eC i g1 (by omega),eC j (by omega) g3]; exact hL.le (by omega) (by omega) (by omega)
 ·rw [eD i g1,eD j (by omega)]; exact hR.le (by omega) (by omega) g3
 ·by_cases i1:i < s
  ·rw [eA i i1]
   by_cases j1:j < n
   ·rw [eC j g3 j1]; exact hL.le (by omega) (by omega) (by omega)
   ·rw [eD j (by omega)]
    rcases hlo with h | h | h
    ·omega
    ·omega
    ·have q1:=hL.le (i:=i) (j:=s - 1) (by omega) (by omega) (by omega)
     have q2:=hR.le (i:=n) (j:=j) (by omega) (by omega) (by omega)
     omega
  ·rw [eB i (by omega) g2]
   by_cases j1:j < n
   ·rw [eC j g3 j1]
    rcases hup with h | h | h
    ·omega
    ·omega
    ·have q1:=hR.le (i:=i + (m - s)) (j:=n - 1) (by omega) (by omega) (by omega)
     have q2:=hL.le (i:=s) (j:=j - (n - m)) (by omega) (by omega) (by omega)
     omega
   ·rw [eD j (by omega)]; exact hR.le (by omega) (by omega) (by omega)
theorem mrg_glue {a mid b:Nat} {d e f g:Array Ms} (h1:a <= mid) (h2:mid <= b) (hb:b <= d.size) (h0:PermIn a b d e) (hx:∀ i j,a <= i->i < mid->mid <= j->j < b->e[i]!.1 <= e[j]!.1)
 (hL:Mrg a mid e f) (hR:Mrg mid b f g):Mrg a b d g:=by
 have se:e.size = d.size:=h0.1
 have sf:f.size = e.size:=hL.1.1
 refine ⟨pin_trans h0 (pin_trans (pin_wide hL.1 (by omega) h2 (by omega)) (pin_wide hR.1 h1 (by omega) (by omega))),?_⟩
 have k1:∀ i,a <= i->i < mid->∀ j,mid <= j->j < b->f[i]!.1 <= e[j]!.1 :=
  permIn_all e f a mid (fun x => ∀ j,mid <= j->j < b->x.1 <= e[j]!.1) (by omega) hL.1 (fun i g1 g2 j g3 g4 => hx i j g1 g2 g3 g4)
 have k2:∀ j,mid <= j->j < b->∀ i,a <= i->i < mid->f[i]!.1 <= g[j]!.1 :=
  permIn_all f g mid b (fun x => ∀ i,a <= i->i < mid->f[i]!.1 <= x.1) (by omega) hR.1 (fun j g1 g2 i g3 g4 => by
   rw [hL.1.2.1 j (by omega)]; exact k1 i g3 g4 j g1 g2)
 intro i j g1 g2 g3
 by_cases j1:j < mid
 ·rw [hR.1.2.1 i (by omega),hR.1.2.1 j (by omega)]; exact hL.2 i j g1 g2 j1
 ·by_cases i1:i < mid
  ·rw [hR.1.2.1 i (by omega)]; exact k2 j (by omega) g3 i g1 i1
  ·exact hR.2 i j (by omega) g2 g3
def Runs (s n q:Nat) (d:Array Ms):Prop:=(∀ r,r < q->Srt (r * (2 * s)) (r * (2 * s) + 2 * s) d)/\∀ r,2 * q <= r->Srt (r * s) (min (r * s + s) n) d
def Run1 (s n:Nat) (d:Array Ms):Prop:=∀ r,Srt (r * s) (min (r * s + s) n) d
theorem runs_start {s n:Nat} {d:Array Ms} (h:Run1 s n d):Runs s n 0 d:=⟨fun r hr => absurd hr (Nat.not_lt_zero r),fun r _ => h r⟩
theorem runs_all {s n:Nat} {d:Array Ms} (h:Run1 s n d) (hn:n <= s):Srt 0 n d:=by
 have:=h 0; rw [Nat.zero_mul] at this; exact this.part (by omega) (by omega)
theorem mul_lt_steps {r q w:Nat} (h:r < q):r * w + w <= q * w:=by
 have:=Nat.mul_le_mul_right w (show r + 1 <= q by omega)
 rw [Nat.add_mul,Nat.one_mul] at this; exact this
theorem two_times (r s:Nat):(2 * r) * s = r * (2 * s):=by rw [Nat.mul_comm 2 r,Nat.mul_assoc]
theorem runs_halves {s n q:Nat} {d:Array Ms} (h:Runs s n q d):Srt (q * (2 * s)) (min (q * (2 * s) + s) n) d/\Srt (q * (2 * s) + s) (min (q * (2 * s) + 2 * s) n) d:=by
 have h1:=h.2 (2 * q) (by omega)
 have h2:=h.2 (2 * q + 1) (by omega)
 rw [two_times] at h1
 rw [Nat.add_mul,Nat.one_mul,two_times] at h2
 exact ⟨h1,by rw [show q * (2 * s) + 2 * s = q * (2 * s) + s + s by omega]; exact h2⟩
theorem runs_step {s n q b:Nat} {d e:Array Ms} (h:Runs s n q d) (hb:b = q * (2 * s) + 2 * s) (hbn:b <= n) (hm:Mrg (q * (2 * s)) b d e):Runs s n (q + 1) e:=by
 subst hb
 refine ⟨fun r hr => ?_,fun r hr => ?_⟩
 ·by_cases h1:r = q
  ·subst h1; exact hm.2
  ·have:=mul_lt_steps (w:=2 * s) (show r < q by omega)
   exact (h.1 r (by omega)).kept hm.1 (Or.inl this)
 ·have:q * (2 * s) + 2 * s <= r * s:=by
   have:=Nat.mul_le_mul_right s (show 2 * (q + 1) <= r by omega)
   rw [two_times,Nat.add_mul,Nat.one_mul] at this; exact this
  exact (h.2 r (by omega)).kept hm.1 (Or.inr this)
theorem runs_end {s n q:Nat} {d:Array Ms} (h:Runs s n q d) (h1:n < q * (2 * s) + 2 * s) (h2:Srt (q * (2 * s)) n d):Run1 (2 * s) n d:=by
 intro r
 by_cases hr:r < q
 ·have:=mul_lt_steps (w:=2 * s) hr
  exact (h.1 r hr).part (by omega) (by omega)
 ·by_cases e:r = q
  ·subst e; exact h2.part (by omega) (by omega)
  ·have:=mul_lt_steps (w:=2 * s) (show q < r by omega)
   exact srt_one _ _ _ (by omega)
def Blks (s q:Nat) (d:Array Ms):Prop:=∀ r,r < q->Srt (r * s) (r * s + s) d
theorem blks_start (s:Nat) (d:Array Ms):Blks s 0 d:=fun r hr => absurd hr (Nat.not_lt_zero r)
theorem blks_step {s q:Nat} {d e:Array Ms} (h:Blks s q d) (hm:Mrg (q * s) (q * s + s) d e):Blks s (q + 1) e:=by
 intro r hr
 by_cases h1:r = q
 ·subst h1; exact hm.2
 ·exact (h r (by omega)).kept hm.1 (Or.inl (mul_lt_steps (show r < q by omega)))
theorem blks_end {s q n:Nat} {d e:Array Ms} (h:Blks s q d) (hn:n < q * s + s) (hm:Mrg (q * s) n d e):Run1 s n e:=by
 intro r
 by_cases hr:r < q
 ·exact ((h r hr).kept hm.1 (Or.inl (mul_lt_steps hr))).part (by omega) (by omega)
 ·by_cases e':r = q
  ·subst e'; exact hm.2.part (by omega) (by omega)
  ·have:=mul_lt_steps (w:=s) (show q < r by omega)
   exact srt_one _ _ _ (by omega)
theorem srt_list {n:Nat} {d:Array Ms} (hn:d.size = n) (h:Srt 0 n d):SrtM d.toList:=by
 subst hn
 rw [SrtM,List.pairwise_iff_getElem]
 intro i j hi hj hij
 have:=h i j (Nat.zero_le _) hij (by simpa using hj)
 rw [getElem!_pos d i (by simpa using hi),getElem!_pos d j (by simpa using hj)] at this
 simpa using this
theorem perm_list {n:Nat} {d e:Array Ms} (hn:d.size = n) (h:PermIn 0 n d e):e.toList.Perm d.toList:=by
 subst hn
 obtain ⟨h1,_,h3⟩:=h
 have e1:e.extract 0 d.size = e:=by rw [<- h1]; exact Array.extract_size
 have e2:d.extract 0 d.size = d:=Array.extract_size
 rw [e1,e2] at h3
 exact h3
end Go.Proofs.YtdcaekmgfcpbmaaGreat.Al
