/-
  What is proved here: words for a heap of ways in memory; contracts of its five methods: how many, which of two is less, two change places, one more, the last one away. Conditions: places are places of it; it is not longer than memory bears. What is proved here: contracts of container/heap's up and down over a heap of ways: they are the same ways in another row. Conditions: places are places of it; it is not longer than memory bears. What is proved here: a contract of container/heap's down from the first place on, over a heap of ways: they are the same ways in another row. Conditions: it is not longer than memory bears.
-/
import Derived.Test.YtdcaekmgfcpbmaaGreatQdMnMem
import Derived.Deep.DeepAppendRoom
namespace Go.Proofs.YtdcaekmgfcpbmaaGreat.Mn
open Go.RowKit Gr Wd Ws Fx Rk Lb
open Pa (vl bt vl_of vl_at bt_of bt_at)
theorem wrap_val (t:TypeId) (a:Addr) (s:String):Builtin.ssaWrapNilChk_ #[t] t #[.pointer (some a),strVal "",strVal s] = pure (.pointer (some a)):=rfl
theorem method_val {P:Program} {w:World} {fuel:Nat} {t elem:TypeId} {name:String} {f:FuncId} {b:Nat} {v:Value}
 (hi:(P.info? t).bind (fun i => (i.methods.find? (·.name == name)).map fun m => (m.path,m.func)) = some (#[],some (f,false)))
 (hu:P.underlying t = some (.pointer elem)) (hl:(loadVar elem ⟨b,0,none⟩).run P w = .ok v w) :
 (method (fuel + 1) t (.pointer (some ⟨b,0,none⟩)) name).run P w = .ok (f,v) w:=by
 cases h1:P.info? t with
 | none => rw [h1] at hi; cases hi
 | some i =>
  rw [h1] at hi
  cases h2:i.methods.find? (·.name == name) with
  | none => rw [Option.bind_some,h2] at hi; cases hi
  | some m =>
   rw [Option.bind_some,h2] at hi
   simp only [Option.map_some,Option.some.injEq,Prod.mk.injEq] at hi
   obtain ⟨h3,h4⟩:=hi
   have u:=run_underlying hu
   unfold method
   simp [typeInfo,h1,h2,h3,h4,follow,receiverAt,u,Place.get,wrap_val,asAddr,hl]
theorem load_near (w:World) (b:Nat) (v:Value) (h:w.cell? ⟨b,0,none⟩ = some v):(loadVar 88 ⟨b,0,none⟩).run Tryz.prog w = .ok v w:=by
 have a:=Tryz.isAgg88
 unfold loadVar; simp [a,go_sem,h]
abbrev hpV (b:Nat):Value:=.iface 84 (.pointer (some ⟨b,0,none⟩))
theorem look_len (w:World) (b:Nat) (v:Value) (h:w.cell? ⟨b,0,none⟩ = some v):(method 329 84 (.pointer (some ⟨b,0,none⟩)) "Len").run Tryz.prog w = .ok (50,v) w :=
 method_val (by kernel_rfl) Tryz.underlying84 (load_near w b v h)
theorem look_less (w:World) (b:Nat) (v:Value) (h:w.cell? ⟨b,0,none⟩ = some v):(method 329 84 (.pointer (some ⟨b,0,none⟩)) "Less").run Tryz.prog w = .ok (142,v) w :=
 method_val (by kernel_rfl) Tryz.underlying84 (load_near w b v h)
theorem look_swap (w:World) (b:Nat) (v:Value) (h:w.cell? ⟨b,0,none⟩ = some v):(method 329 84 (.pointer (some ⟨b,0,none⟩)) "Swap").run Tryz.prog w = .ok (145,v) w :=
 method_val (by kernel_rfl) Tryz.underlying84 (load_near w b v h)
theorem look_push (w:World) (b:Nat):(method 329 84 (.pointer (some ⟨b,0,none⟩)) "Push").run Tryz.prog w = .ok (144,.pointer (some ⟨b,0,none⟩)) w:=by kernel_rfl
theorem look_pop (w:World) (b:Nat):(method 329 84 (.pointer (some ⟨b,0,none⟩)) "Pop").run Tryz.prog w = .ok (143,.pointer (some ⟨b,0,none⟩)) w:=by kernel_rfl
def wcs (H:List Wy):List Value:=H.flatMap fun p => [.int .i64 (p.1:Int),.int .i64 p.2]
theorem wcs_append (a b:List Wy):wcs (a ++ b) = wcs a ++ wcs b:=by simp [wcs]
theorem wcs_len:∀ H:List Wy,(wcs H).length = H.length * 2
 | [] => rfl
 | p :: H => by
  have:=wcs_len H
  unfold wcs at this ⊢
  rw [List.flatMap_cons,List.length_append,this,List.length_cons]; simp; omega
theorem wcs_at:∀ (H:List Wy) (k:Nat) (p:Wy),H[k]? = some p->(wcs H)[k * 2]? = some (.int .i64 (p.1:Int))/\(wcs H)[k * 2 + 1]? = some (.int .i64 p.2)
 | [],k,p,h => by simp at h
 | q :: H,0,p,h => by
  obtain rfl:q = p:=by simpa using h
  simp [wcs]
 | q :: H,k + 1,p,h => by
  have:=wcs_at H k p (by simpa using h)
  unfold wcs at this ⊢
  rw [List.flatMap_cons,show (k + 1) * 2 = k * 2 + 2 by omega,show k * 2 + 2 + 1 = (k * 2 + 1) + 2 by omega]
  simpa using this
theorem wcs_set:∀ (H:List Wy) (k:Nat) (p:Wy),wcs (H.set k p) = ((wcs H).set (k * 2) (.int .i64 (p.1:Int))).set (k * 2 + 1) (.int .i64 p.2)
 | [],k,p => by simp [wcs]
 | q :: H,0,p => by simp [wcs]
 | q :: H,k + 1,p => by
  have:=wcs_set H k p
  unfold wcs at this ⊢
  rw [List.set_cons_succ,List.flatMap_cons,List.flatMap_cons,this,show (k + 1) * 2 = k * 2 + 2 by omega,show k * 2 + 2 + 1 = (k * 2 + 1) + 2 by omega]
  simp
def WOw (w:World) (B:Nat) (v:Value) (H:List Wy):Prop:=w.ownsRow B 86 2 v H.length (wcs H)
theorem WOw.below {w w':World} {B:Nat} {v:Value} {H:List Wy} (h:WOw w B v H) (hb:Below w.heap.size w w'):WOw w' B v H:=own_below h hb
theorem WOw.alloc {w:World} {B:Nat} {v:Value} {H:List Wy} (h:WOw w B v H) (o:Obj):WOw (w.alloc o) B v H:=World.ownsRow.alloc h o
theorem WOw.form {w:World} {B:Nat} {v:Value} {H:List Wy} (h:WOw w B v H):∃ A c,v = .slice A H.length c:=by
 obtain ⟨_,h1 | ⟨g,cap,cur,h1,h2,_⟩⟩:=h
 ·exact ⟨none,0,by rw [h1.1,h1.2]⟩
 ·exact ⟨_,_,h1⟩
theorem WOw.some_ {w:World} {B:Nat} {v:Value} {H:List Wy} (h:WOw w B v H) (hl:0 < H.length):∃ g cp,v = .slice (some ⟨g,0,none⟩) H.length cp/\B <= g:=by
 obtain ⟨_,h1 | ⟨g,cap,cur,h1,h2,_⟩⟩:=h
 ·omega
 ·exact ⟨g,cap,h1,h2⟩
theorem WOw.at_ {w:World} {B g n cp:Nat} {H:List Wy} (hn:H.length = n) (h:WOw w B (.slice (some ⟨g,0,none⟩) n cp) H) {k:Nat} {p:Wy} (hk:H[k]? = some p) :
 w.cell? ⟨g,k * 2,none⟩ = some (.int .i64 (p.1:Int))/\w.cell? ⟨g,k * 2 + 1,none⟩ = some (.int .i64 p.2)/\∀ j,w.frozen? ⟨g,j,none⟩ = false:=by
 subst hn
 have hl:=(List.getElem?_eq_some_iff.1 hk).1
 obtain ⟨a,b⟩:=wcs_at H k p hk
 exact ⟨by rw [World.ownsRow.cellAt h (k * 2) (by omega),a],by rw [World.ownsRow.cellAt h (k * 2 + 1) (by omega),b],fun j => World.ownsRow.frozenAt h j⟩
def put2 (w:World) (g k:Nat) (p:Wy):World:=(w.setCell ⟨g,k * 2,none⟩ (.int .i64 (p.1:Int))).setCell ⟨g,k * 2 + 1,none⟩ (.int .i64 p.2)
theorem WOw.set {w:World} {B g n cp:Nat} {H:List Wy} (hn:H.length = n) (h:WOw w B (.slice (some ⟨g,0,none⟩) n cp) H) (k:Nat) (p:Wy):WOw (put2 w g k p) B (.slice (some ⟨g,0,none⟩) n cp) (H.set k p):=by
 subst hn
 have h1:=(World.ownsRow.stored h (k * 2) (.int .i64 (p.1:Int))).1
 have h2:=(World.ownsRow.stored h1 (k * 2 + 1) (.int .i64 p.2)).1
 unfold WOw put2
 rw [List.length_set,wcs_set]; exact h2
theorem WOw.blk {w:World} {B g n cp:Nat} {H:List Wy} (h:WOw w B (.slice (some ⟨g,0,none⟩) n cp) H):B <= g/\∃ c,w.heap[g]? = some (.cells c 86 (0,0)):=own_lt h g rfl
theorem info86:(Tryz.prog.info? 86).map (fun i => (i.zero,i.size,i.bytes)) = some (some (.agg #[.int .i64 0,.int .i64 0]),2,16):=by kernel_rfl
theorem app_w {w:World} {o:Oper} {a:Act} {K:Act->World->Prop} {Q:Exit->Act->World->Prop} (s x:Operand)
 (ho:o.op = .call { callee:=.builtin .append,args:=#[s,x],argTypes:=#[88,88] })
 (B g0 n cp:Nat) (H:List Wy) (p:Wy) (hl:H.length = n) (hs:a.eval s = .slice (some ⟨g0,0,none⟩) n cp) (hown:WOw w B (.slice (some ⟨g0,0,none⟩) n cp) H) (hcp:1 <= cp)
 (g:Nat) (hx:a.eval x = .slice (some ⟨g,0,none⟩) 1 1) (hg:w.heap[g]? = some (.cells #[.int .i64 (p.1:Int),.int .i64 p.2] 86 (0,0))) (hn:n < 4000000000000) (hB:B <= w.heap.size)
 (h:∀ g' cp' w',WOw w' B (.slice (some ⟨g',0,none⟩) (n + 1) cp') (H ++ [p])->1 <= cp'->(g' = g0\/2 <= cp')->w.grownBy w' (some g0)->K (a.put o.dst (.slice (some ⟨g',0,none⟩) (n + 1) cp')) w'):o.wp Tryz.prog a w K Q:=by
 obtain ⟨i0,hi,hz0,hz1,hz2⟩:=info_parts info86
 subst hl
 have hcells:∀ j u,([.int .i64 (p.1:Int),.int .i64 p.2]:List Value)[j]? = some u->w.cell? ((⟨g,0,none⟩:Addr).add j) = some u:=by
  intro j u hu
  rw [add_plain,Lib.cell_of_heap hg]
  rcases j with _ | _ | j
  ·simpa using hu
  ·simpa using hu
  ·simp at hu
 have hone:∀ u ∈ ([.int .i64 (p.1:Int),.int .i64 p.2]:List Value),u.oneCell' = true:=by
  intro u hu
  simp only [List.mem_cons,List.not_mem_nil,or_false] at hu
  rcases hu with rfl | rfl <;> rfl
 have hwcs:wcs (H ++ [p]) = wcs H ++ [.int .i64 (p.1:Int),.int .i64 p.2]:=by rw [wcs_append]; rfl
 by_cases hroom:H.length + 1 <= cp
 ·refine wp_append_own_spare w s x 88 ho B 86 i0 2 Tryz.underlying88 hi hz1 g0 H.length cp (wcs H) hs hown ⟨g,0,none⟩ 1 1 [.int .i64 (p.1:Int),.int .i64 p.2] hx rfl hcells hone hroom ?_
  intro w' h1 h2
  refine h g0 cp w' ?_ hcp (Or.inl rfl) h2
  unfold WOw
  rw [hwcs,List.length_append]; exact h1
 ·refine wp_append_own w s x 88 ho B 86 i0 _ 2 16 Tryz.underlying88 hi hz0 hz1 hz2 rfl (by decide) _ H.length (wcs H) hs hown ⟨g,0,none⟩ 1 1 [.int .i64 (p.1:Int),.int .i64 p.2] hx rfl hcells hone ?_ ?_ hB ?_
  ·unfold maxLen; omega
  ·omega
  ·intro v' w' h1 h2 h3
   have hw:WOw w' B v' (H ++ [p]):=by
    unfold WOw
    rw [hwcs,List.length_append]; exact h1
   obtain ⟨_,h4 | ⟨g',cap,cur,e,_,_,h5,_⟩⟩:=h1
   ·exact absurd (h3.1 h4.1).2 (by omega)
   ·subst e
    exact h g' cap w' hw (by omega) (Or.inr (by omega)) h2
theorem len_any (A:Option Addr) (n c:Nat) (w:World):Calls Tryz.prog 50 #[.slice A n c] w fun e w' => e = .returned (.int .i64 (n:Int))/\w = w':=by
 go_enter Tryz.func50,Tryz.ntmps50
 go_wp2
 go_ret
 exact ⟨rfl,rfl⟩
set_option maxRecDepth 100000 in
theorem less_any (B g n cp i k:Nat) (H:List Wy) (p q:Wy) (w:World) (hn:H.length = n) (h:WOw w B (.slice (some ⟨g,0,none⟩) n cp) H) (hi:H[i]? = some p) (hk:H[k]? = some q) (_hm:n < 4000000000000) :
 Calls Tryz.prog 142 #[.slice (some ⟨g,0,none⟩) n cp,.int .i64 (i:Int),.int .i64 (k:Int)] w fun e w' => e = .returned (.bool (decide (p.2 < q.2)))/\Below w.heap.size w w':=by
 have mixed:=mixedP
 have hin:i < n:=by rw [<- hn]; exact (List.getElem?_eq_some_iff.1 hi).1
 have hkn:k < n:=by rw [<- hn]; exact (List.getElem?_eq_some_iff.1 hk).1
 obtain ⟨_,c1,_⟩:=h.at_ hn hi
 obtain ⟨_,d1,_⟩:=h.at_ hn hk
 obtain ⟨x,hx⟩:∃ x,p.2 = x:=⟨_,rfl⟩
 obtain ⟨y,hy⟩:∃ y,q.2 = y:=⟨_,rfl⟩
 rw [hx] at c1; rw [hy] at d1
 rw [hx,hy]
 obtain ⟨r,hr⟩:∃ r,decide (x < y) = r:=⟨_,rfl⟩
 rw [hr]
 have HR:=jH hr
 clear h hi hk hx hy hr hn
 go_enter Tryz.func142,Tryz.ntmps142
 go_wp2
 go_quiet (fail)
 go_wp2
 go_ret
 exact ⟨by rw [HR.out]; rfl,below_drewN (Below.refl _ _) _⟩
theorem WOw.cut {w:World} {B g n cp:Nat} {H:List Wy} {p:Wy} (hn:H.length = n) (h:WOw w B (.slice (some ⟨g,0,none⟩) (n + 1) cp) (H ++ [p])):WOw w B (.slice (some ⟨g,0,none⟩) n cp) H:=by
 subst hn
 obtain ⟨h0,h1 | ⟨g',cap,cur,h1,h2,h3,h4,h5,h6,h7⟩⟩:=h
 ·cases h1.1
 ·injection h1 with e1 e2 e3
  injection e1 with e1
  injection e1 with e1
  subst e1 e3
  refine ⟨wcs_len H,Or.inr ⟨g,cp,cur,rfl,h2,h3,by rw [List.length_append] at h4; omega,h5,h6,?_⟩⟩
  have:=congrArg (List.take (H.length * 2)) h7
  rw [List.take_take,wcs_append,List.take_left' (wcs_len H),List.length_append] at this
  rw [show min (H.length * 2) ((H.length + [p].length) * 2) = H.length * 2 by omega] at this
  exact this
theorem put2_grown (w:World) (g k:Nat) (p:Wy):w.grownBy (put2 w g k p) (some g):=grown_trans (grown_set w g _ _) (grown_set _ g _ _)
theorem swp_perm {H:List Wy} {i k:Nat} {p q:Wy} (hi:H[i]? = some p) (hk:H[k]? = some q):((H.set i q).set k p).Perm H:=by
 obtain ⟨hi1,hi2⟩:=List.getElem?_eq_some_iff.1 hi
 obtain ⟨hk1,hk2⟩:=List.getElem?_eq_some_iff.1 hk
 rw [<- hi2,<- hk2]
 exact List.set_set_perm hi1 hk1
set_option maxRecDepth 100000 in
set_option maxHeartbeats 2000000 in
theorem swap_any (B g n cp i k:Nat) (H:List Wy) (p q:Wy) (w:World) (hn:H.length = n) (h:WOw w B (.slice (some ⟨g,0,none⟩) n cp) H) (hi:H[i]? = some p) (hk:H[k]? = some q) (_hm:n < 4000000000000) :
 Calls Tryz.prog 145 #[.slice (some ⟨g,0,none⟩) n cp,.int .i64 (i:Int),.int .i64 (k:Int)] w fun e w' => e = .returned (.tuple #[])/\Hid (WOw w' B (.slice (some ⟨g,0,none⟩) n cp) ((H.set i q).set k p)/\w.grownBy w' (some g)):=by
 have mixed:=mixedP
 have hin:i < n:=by rw [<- hn]; exact (List.getElem?_eq_some_iff.1 hi).1
 have hkn:k < n:=by rw [<- hn]; exact (List.getElem?_eq_some_iff.1 hk).1
 obtain ⟨y0,y1,rf⟩:=h.at_ hn hi
 obtain ⟨z0,z1,_⟩:=h.at_ hn hk
 have HX:=jH (((h.below (Below.refl _ w).drew).set hn i q).set (by rw [List.length_set]; exact hn) k p)
 have HG:=jH (grown_trans (grown_drew w (some g)) (grown_trans (put2_grown w.drew g i q) (put2_grown _ g k p)))
 obtain ⟨ya,yb⟩:=p
 obtain ⟨za,zb⟩:=q
 by_cases hik:i = k
 ·subst hik
  obtain ⟨rfl,rfl⟩:ya = za/\yb = zb:=by rw [hi] at hk; injection hk with hk; injection hk with h1 h2; exact ⟨h1,h2⟩
  clear h hi hk hn z0 z1
  go_enter Tryz.func145,Tryz.ntmps145
  go_wp2_with fail
  go_big_region
  go_wp2
  go_end0
  exact ⟨rfl,jH ⟨HX.out,HG.out⟩⟩
 ·clear h hi hk hn
  go_enter Tryz.func145,Tryz.ntmps145
  go_wp2_with fail
  go_big_region
  go_wp2
  go_end0
  exact ⟨rfl,jH ⟨HX.out,HG.out⟩⟩
open Go.RowKit Gr Wd Ws Fx Rk Lb
open Pa (vl bt vl_of vl_at bt_of bt_at)
structure Hp (b B g n cp:Nat) (H:List Wy) (w:World):Prop where
 box:w.heap[b]? = some (.cells #[.slice (some ⟨g,0,none⟩) n cp] 88 (0,0))
 row:WOw w B (.slice (some ⟨g,0,none⟩) n cp) H
 cap:1 <= cp
 len:H.length = n
 lo:B <= b/\B <= w.heap.size
structure Sd (B b g g':Nat) (w w':World):Prop where
 below:Below B w w'
 keep:∀ j c T,w.heap[j]? = some (.cells c T (0,0))->(T ≠ 86\/c.size = 2)->j ≠ b->j ≠ g->w'.heap[j]? = some (.cells c T (0,0))/\j ≠ g'
theorem Sd.refl (B b g:Nat) (w:World):Sd B b g g w w:=⟨Below.refl _ _,fun _ _ _ h _ _ hg => ⟨h,hg⟩⟩
theorem Sd.trans {B b g1 g2 g3:Nat} {w1 w2 w3:World} (h:Sd B b g1 g2 w1 w2) (k:Sd B b g2 g3 w2 w3):Sd B b g1 g3 w1 w3 :=
 ⟨h.below.trans k.below,fun j c T hj hT hb hg => by
  obtain ⟨h1,h2⟩:=h.keep j c T hj hT hb hg
  exact k.keep j c T h1 hT hb h2⟩
theorem Sd.of_grown {B b g:Nat} {w w':World} (h:w.grownBy w' (some g)) (hg:B <= g) (hB:B <= w.heap.size):Sd B b g g w w' :=
 ⟨grown_below h hg hB,fun j _ _ hj _ _ hjg => ⟨(h.block j (lt_of_block hj) (fun e => hjg (by injection e))).trans hj,hjg⟩⟩
theorem Sd.of_below {B b g:Nat} {w w':World} (h:Below w.heap.size w w') (hB:B <= w.heap.size):Sd B b g g w w' :=
 ⟨h.mono hB,fun j _ _ hj _ _ hjg => ⟨(h.block j (lt_of_block hj)).trans hj,hjg⟩⟩
theorem Hp.below {b B g n cp:Nat} {H:List Wy} {w w':World} (h:Hp b B g n cp H w) (hb:Below w.heap.size w w'):Hp b B g n cp H w':=⟨keepB h.box hb,h.row.below hb,h.cap,h.len,⟨h.lo.1,Nat.le_trans h.lo.2 hb.size⟩⟩
theorem Hp.grown {b B g n cp:Nat} {H H':List Wy} {w w':World} (h:Hp b B g n cp H w) (hg:w.grownBy w' (some g)) (h':WOw w' B (.slice (some ⟨g,0,none⟩) n cp) H') (hl:H'.length = n):Hp b B g n cp H' w':=by
 obtain ⟨_,c',hc⟩:=h.row.blk
 exact ⟨grown_box hg h.box hc (by decide),h',h.cap,hl,⟨h.lo.1,Nat.le_trans h.lo.2 hg.size⟩⟩
theorem Hp.cell {b B g n cp:Nat} {H:List Wy} {w:World} (h:Hp b B g n cp H w):w.cell? ⟨b,0,none⟩ = some (.slice (some ⟨g,0,none⟩) n cp):=(one_cell h.box).1
theorem Hp.own {b B g n cp:Nat} {H:List Wy} {w:World} (h:Hp b B g n cp H w):B <= g:=h.row.blk.1
structure Mv (b B g n cp:Nat) (H H':List Wy) (w w':World):Prop where
 perm:H'.Perm H
 hp:Hp b B g n cp H' w'
 sd:Sd B b g g w w'
theorem Mv.refl {b B g n cp:Nat} {H:List Wy} {w:World} (h:Hp b B g n cp H w):Mv b B g n cp H H w w:=⟨.refl _,h,.refl _ _ _ _⟩
theorem Mv.below {b B g n cp:Nat} {H H':List Wy} {w w1 w2:World} (h:Mv b B g n cp H H' w w1) (hb:Below w1.heap.size w1 w2):Mv b B g n cp H H' w w2 :=
 ⟨h.perm,h.hp.below hb,h.sd.trans (.of_below hb h.hp.lo.2)⟩
theorem Mv.swap {b B g n cp i k:Nat} {H H':List Wy} {p q:Wy} {w w1 w2:World} (h:Mv b B g n cp H H' w w1) (hi:H'[i]? = some p) (hk:H'[k]? = some q) (h2:WOw w2 B (.slice (some ⟨g,0,none⟩) n cp) ((H'.set i q).set k p)/\w1.grownBy w2 (some g)) :
 Mv b B g n cp H ((H'.set i q).set k p) w w2 :=
 ⟨(swp_perm hi hk).trans h.perm,h.hp.grown h2.2 h2.1 (by rw [List.length_set,List.length_set]; exact h.hp.len),h.sd.trans (.of_grown h2.2 h.hp.own h.hp.lo.2)⟩
theorem way_at {H:List Wy} {n k:Nat} (hl:H.length = n) (hk:k < n):∃ p,H[k]? = some p:=⟨_,List.getElem?_eq_getElem (by rw [hl]; exact hk)⟩
set_option maxRecDepth 100000 in
set_option maxHeartbeats 2000000 in
theorem up_any (b B g n cp:Nat) (H:List Wy) (j0:Nat) (w:World) (hm:n < 4000000000000) (h:Hp b B g n cp H w) (hj:j0 < n) :
 Calls Tryz.prog 76 #[hpV b,.int .i64 (j0:Int)] w fun e w' => e = .returned (.tuple #[])/\∃ H',Hid (Mv b B g n cp H H' w w'):=by
 have HH:=jH h
 clear h
 go_enter Tryz.func76,Tryz.ntmps76
 go_wp2_with fail
 go_loopg [1] (j0 + 1) (fun gk jv wr => ∃ (j:Nat) (H1:List Wy),jv = .int .i64 (j:Int)/\j + 1 = gk/\j < n/\Hid (Mv b B g n cp H H1 w wr))
 case atStart => exact ⟨j0,H,rfl,rfl,hj,jH (Mv.refl HH.out)⟩
 case round =>
  clear HH
  obtain ⟨j,H1,rfl,hjk,hjn,HR⟩:=hrel
  by_cases hz:j = 0
  ·subst hz
   have hq:Int.tdiv (((0:Nat):Int) - 1) 2 = 0:=by decide
   go_wp2
   go_end0
   exact ⟨rfl,H1,HR⟩
  ·obtain ⟨i,hi⟩:∃ i,i = (j - 1) / 2:=⟨_,rfl⟩
   have hq:((j:Int) - 1).tdiv 2 = (i:Int):=by
    rw [Int.tdiv_eq_ediv_of_nonneg (by omega)]; omega
   have hij:i < j:=by omega
   have hne:((i:Int) = (j:Int)) = False:=by simp; omega
   obtain ⟨p,hp⟩:=way_at HR.out.hp.len (show i < n by omega)
   obtain ⟨q,hq'⟩:=way_at HR.out.hp.len hjn
   have HP:=jH hp; have HQ:=jH hq'
   have hlk:=look_less wr b _ HR.out.hp.cell
   obtain ⟨r,hr⟩:∃ r,decide (q.2 < p.2) = r:=⟨_,rfl⟩
   have HC:=jH (less_any B g n cp j i H1 q p wr HR.out.hp.len HR.out.hp.row hq' hp hm)
   rw [hr] at HC
   clear hp hq' hi hr
   go_wp2_with fail
   refine HC.out.mono ?_
   rintro e w2 ⟨rfl,hb2⟩
   have HR2:=jH (HR.out.below hb2)
   clear hlk HC hb2
   cases r with
   | false =>
    go_wp2
    go_end0
    exact ⟨rfl,H1,HR2⟩
   | true =>
    have hlk:=look_swap w2 b _ HR2.out.hp.cell
    have HC:=jH (swap_any B g n cp i j H1 p q w2 HR2.out.hp.len HR2.out.hp.row HP.out HQ.out hm)
    go_wp2_with fail
    refine HC.out.mono ?_
    rintro e w3 ⟨rfl,h3⟩
    have HR3:=jH (HR2.out.swap HP.out HQ.out h3.out)
    clear hlk HC h3
    go_wp2
    go_roundg (i + 1)
    case measure => omega
    case rel => exact ⟨i,_,rfl,rfl,by omega,HR3⟩
theorem less_at (B g n cp i k:Nat) (H:List Wy) (p q:Wy) (w:World) (I K:Int) (hI:I = (i:Int)) (hK:K = (k:Int)) (hn:H.length = n) (h:WOw w B (.slice (some ⟨g,0,none⟩) n cp) H) (hi:H[i]? = some p) (hk:H[k]? = some q) (hm:n < 4000000000000) :
 Calls Tryz.prog 142 #[.slice (some ⟨g,0,none⟩) n cp,.int .i64 I,.int .i64 K] w fun e w' => e = .returned (.bool (decide (p.2 < q.2)))/\Below w.heap.size w w':=by
 subst hI hK; exact less_any B g n cp i k H p q w hn h hi hk hm
theorem swap_at (B g n cp i k:Nat) (H:List Wy) (p q:Wy) (w:World) (I K:Int) (hI:I = (i:Int)) (hK:K = (k:Int)) (hn:H.length = n) (h:WOw w B (.slice (some ⟨g,0,none⟩) n cp) H) (hi:H[i]? = some p) (hk:H[k]? = some q) (hm:n < 4000000000000) :
 Calls Tryz.prog 145 #[.slice (some ⟨g,0,none⟩) n cp,.int .i64 I,.int .i64 K] w fun e w' => e = .returned (.tuple #[])/\Hid (WOw w' B (.slice (some ⟨g,0,none⟩) n cp) ((H.set i q).set k p)/\w.grownBy w' (some g)):=by
 subst hI hK; exact swap_any B g n cp i k H p q w hn h hi hk hm
open Go.RowKit Gr Wd Ws Fx Rk Lb
open Pa (vl bt vl_of vl_at bt_of bt_at)
set_option maxRecDepth 100000 in
set_option maxHeartbeats 4000000 in
theorem down_any (b B g n cp m:Nat) (H:List Wy) (w:World) (hm:n < 4000000000000) (h:Hp b B g n cp H w) (hmn:m <= n) :
 Calls Tryz.prog 72 #[hpV b,.int .i64 0,.int .i64 (m:Int)] w fun e w' => (∃ r,e = .returned r)/\∃ H',Hid (Mv b B g n cp H H' w w'):=by
 have HH:=jH h
 clear h
 go_enter Tryz.func72,Tryz.ntmps72
 go_wp2_with fail
 go_loopg [7] m (fun gk iv wr => ∃ (i:Nat) (H1:List Wy),iv = .int .i64 (i:Int)/\i + gk = m/\(i < m\/i = 0)/\Hid (Mv b B g n cp H H1 w wr))
 case atStart => exact ⟨0,H,rfl,by omega,Or.inr rfl,jH (Mv.refl HH.out)⟩
 case round =>
  clear HH
  obtain ⟨i,H1,rfl,hik,him,HR⟩:=hrel
  by_cases h1:2 * i + 1 < m
  ·have hi:i < m:=by omega
   obtain ⟨pi,hpi⟩:=way_at HR.out.hp.len (show i < n by omega)
   obtain ⟨q1,hq1⟩:=way_at HR.out.hp.len (show 2 * i + 1 < n by omega)
   have HPI:=jH hpi; have HQ1:=jH hq1
   clear hpi hq1
   by_cases h2:2 * i + 1 + 1 < m
   ·obtain ⟨q2,hq2⟩:=way_at HR.out.hp.len (show 2 * i + 1 + 1 < n by omega)
    have HQ2:=jH hq2
    clear hq2
    have hlk:=look_less wr b _ HR.out.hp.cell
    obtain ⟨r,hr⟩:∃ r,decide (q2.2 < q1.2) = r:=⟨_,rfl⟩
    have HC:=jH (less_at B g n cp (2 * i + 1 + 1) (2 * i + 1) H1 q2 q1 wr (2 * (i:Int) + 1 + 1) (2 * (i:Int) + 1) (by omega) (by omega) HR.out.hp.len HR.out.hp.row HQ2.out HQ1.out hm)
    rw [hr] at HC
    clear hr
    go_wp2_with fail
    refine HC.out.mono ?_
    rintro e w2 ⟨rfl,hb2⟩
    have HR2:=jH (HR.out.below hb2)
    clear hlk HC hb2 HR
    cases r with
    | true =>
     have hlk:=look_less w2 b _ HR2.out.hp.cell
     obtain ⟨r2,hr2⟩:∃ r,decide (q2.2 < pi.2) = r:=⟨_,rfl⟩
     have HC:=jH (less_at B g n cp (2 * i + 1 + 1) i H1 q2 pi w2 (2 * (i:Int) + 1 + 1) i (by omega) rfl HR2.out.hp.len HR2.out.hp.row HQ2.out HPI.out hm)
     rw [hr2] at HC
     clear hr2
     go_wp2_with fail
     refine HC.out.mono ?_
     rintro e w3 ⟨rfl,hb3⟩
     have HR3:=jH (HR2.out.below hb3)
     clear hlk HC hb3
     cases r2 with
     | false =>
      go_wp2
      go_ret
      exact ⟨⟨_,rfl⟩,H1,HR3⟩
     | true =>
      have hlk:=look_swap w3 b _ HR3.out.hp.cell
      have HC:=jH (swap_at B g n cp i (2 * i + 1 + 1) H1 pi q2 w3 i (2 * (i:Int) + 1 + 1) rfl (by omega) HR3.out.hp.len HR3.out.hp.row HPI.out HQ2.out hm)
      go_wp2_with fail
      refine HC.out.mono ?_
      rintro e w4 ⟨rfl,h4⟩
      have HR4:=jH (HR3.out.swap HPI.out HQ2.out h4.out)
      clear hlk HC h4
      go_wp2
      go_roundg (m - (2 * i + 1 + 1))
      case measure => omega
      case rel => exact ⟨2 * i + 1 + 1,_,by go_num,by omega,by omega,HR4⟩
    | false =>
     have hlk:=look_less w2 b _ HR2.out.hp.cell
     obtain ⟨r2,hr2⟩:∃ r,decide (q1.2 < pi.2) = r:=⟨_,rfl⟩
     have HC:=jH (less_at B g n cp (2 * i + 1) i H1 q1 pi w2 (2 * (i:Int) + 1) i (by omega) rfl HR2.out.hp.len HR2.out.hp.row HQ1.out HPI.out hm)
     rw [hr2] at HC
     clear hr2
     go_wp2_with fail
     refine HC.out.mono ?_
     rintro e w3 ⟨rfl,hb3⟩
     have HR3:=jH (HR2.out.below hb3)
     clear hlk HC hb3
     cases r2 with
     | false =>
      go_wp2
      go_ret
      exact ⟨⟨_,rfl⟩,H1,HR3⟩
     | true =>
      have hlk:=look_swap w3 b _ HR3.out.hp.cell
      have HC:=jH (swap_at B g n cp i (2 * i + 1) H1 pi q1 w3 i (2 * (i:Int) + 1) rfl (by omega) HR3.out.hp.len HR3.out.hp.row HPI.out HQ1.out hm)
      go_wp2_with fail
      refine HC.out.mono ?_
      rintro e w4 ⟨rfl,h4⟩
      have HR4:=jH (HR3.out.swap HPI.out HQ1.out h4.out)
      clear hlk HC h4
      go_wp2
      go_roundg (m - (2 * i + 1))
      case measure => omega
      case rel => exact ⟨2 * i + 1,_,by go_num,by omega,by omega,HR4⟩
   ·have hlk:=look_less wr b _ HR.out.hp.cell
    obtain ⟨r2,hr2⟩:∃ r,decide (q1.2 < pi.2) = r:=⟨_,rfl⟩
    have HC:=jH (less_at B g n cp (2 * i + 1) i H1 q1 pi wr (2 * (i:Int) + 1) i (by omega) rfl HR.out.hp.len HR.out.hp.row HQ1.out HPI.out hm)
    rw [hr2] at HC
    clear hr2
    go_wp2_with fail
    refine HC.out.mono ?_
    rintro e w3 ⟨rfl,hb3⟩
    have HR3:=jH (HR.out.below hb3)
    clear hlk HC hb3
    cases r2 with
    | false =>
     go_wp2
     go_ret
     exact ⟨⟨_,rfl⟩,H1,HR3⟩
    | true =>
     have hlk:=look_swap w3 b _ HR3.out.hp.cell
     have HC:=jH (swap_at B g n cp i (2 * i + 1) H1 pi q1 w3 i (2 * (i:Int) + 1) rfl (by omega) HR3.out.hp.len HR3.out.hp.row HPI.out HQ1.out hm)
     go_wp2_with fail
     refine HC.out.mono ?_
     rintro e w4 ⟨rfl,h4⟩
     have HR4:=jH (HR3.out.swap HPI.out HQ1.out h4.out)
     clear hlk HC h4
     go_wp2
     go_roundg (m - (2 * i + 1))
     case measure => omega
     case rel => exact ⟨2 * i + 1,_,by go_num,by omega,by omega,HR4⟩
  ·go_wp2
   go_ret
   exact ⟨⟨_,rfl⟩,H1,HR⟩
end Go.Proofs.YtdcaekmgfcpbmaaGreat.Mn
