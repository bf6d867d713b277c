/-
  What is proved here: a contract of algos.Send: what any vertex sends is sendM. Conditions: at most 1000 edges each way. What is proved here: contracts of the document's own Combine, and of its Add: a row of messages, rising, with one more. Conditions: the row is one that the call has made, of fewer than 1000000 messages. What is proved here: contracts of algos.Start, Compute, Combine, Part, Join, Done, Check and of the document's own. Conditions: numbers fit an int.
-/
import Derived.Test.YtdcaekmgfcpbmaaGreatQdAlO3x
import Derived.Test.YtdcaekmgfcpbmaaGreatQdPtG6x
import Derived.Test.YtdcaekmgfcpbmaaGreatQdTlPrex
namespace Go.Proofs.YtdcaekmgfcpbmaaGreat.Al
open Go.RowKit Go.Sort Gr Wd Ws Fx Rk Lb
theorem sendM_one (v x:Int) (ch:Bool) (L M:List Ed):sendM 1 v x ch L M = putM 1 [] (sentR x L.length L):=by unfold sendM rawM; rw [if_pos rfl]
theorem sendM_two (v x:Int) (ch:Bool) (L M:List Ed):sendM 2 v x ch L M = putM 2 [] (if ch = true then sentL x (nearL v L M) else []):=by
 unfold sendM rawM; rw [if_neg (by decide)]; cases ch <;> simp
theorem sendM_three (v x:Int) (ch:Bool) (L M:List Ed):sendM 3 v x ch L M = putM 3 [] (if ch = true then sentP x L else []):=by
 unfold sendM rawM; rw [if_neg (by decide)]; cases ch <;> simp
theorem sendM_no (k v x:Int) (ch:Bool) (L M:List Ed) (h1:¬ k = 1) (h2:¬ k = 2) (h3:¬ k = 3):sendM k v x ch L M = []:=by
 unfold sendM rawM; rw [if_neg h1,if_neg h2,if_neg h3]; cases ch <;> simp [putM]
theorem near_length (v:Int) (L M:List Ed):(nearL v L M).length <= L.length + M.length:=by
 unfold nearL
 have:=putAll_len (tos v L ++ froms v M) []
 have h1:=tos_len v L; have h2:=froms_len v M
 simp at this; omega
theorem one_1 (st so dm ep:Int) (B:Nat) (r:Value) (L:List Ms) (w:World) (hO:Hid (MOwn w B r L)) (hn:L.length <= 100000) (hB:B <= w.heap.size) :
 Calls Tryz.prog 90 #[.iface 96 (.agg #[.int .u8 1,.int .i64 st,.int .i64 so,.int .i64 dm,.int .i64 ep]),r] w fun e w' => ∃ r,e = .returned r/\Hid (MOwn w' B r (putM 1 [] L))/\Hid (Below B w w'):=by
 obtain ⟨A,c,rfl,hat,_,_,hA⟩:=hO.out.room
 rcases hA with ⟨rfl,rfl⟩ | ⟨g,rfl,hg,_⟩
 ·obtain rfl:=mat_none hat
  exact one_none_1 st so dm ep w B
 ·exact one_some_1 st so dm ep B g _ c L w hO (jH rfl) hn hg hB
theorem one_2 (st so dm ep:Int) (B:Nat) (r:Value) (L:List Ms) (w:World) (hO:Hid (MOwn w B r L)) (hn:L.length <= 100000) (hB:B <= w.heap.size) :
 Calls Tryz.prog 90 #[.iface 100 (.agg #[.int .u8 2,.int .i64 st,.int .i64 so,.int .i64 dm,.int .i64 ep]),r] w fun e w' => ∃ r,e = .returned r/\Hid (MOwn w' B r (putM 2 [] L))/\Hid (Below B w w'):=by
 obtain ⟨A,c,rfl,hat,_,_,hA⟩:=hO.out.room
 rcases hA with ⟨rfl,rfl⟩ | ⟨g,rfl,hg,_⟩
 ·obtain rfl:=mat_none hat
  exact one_none_2 st so dm ep w B
 ·exact one_some_2 st so dm ep B g _ c L w hO (jH rfl) hn hg hB
theorem one_3 (st so dm ep:Int) (B:Nat) (r:Value) (L:List Ms) (w:World) (hO:Hid (MOwn w B r L)) (hn:L.length <= 100000) (hB:B <= w.heap.size) :
 Calls Tryz.prog 90 #[.iface 101 (.agg #[.int .u8 3,.int .i64 st,.int .i64 so,.int .i64 dm,.int .i64 ep]),r] w fun e w' => ∃ r,e = .returned r/\Hid (MOwn w' B r (putM 3 [] L))/\Hid (Below B w w'):=by
 obtain ⟨A,c,rfl,hat,_,_,hA⟩:=hO.out.room
 rcases hA with ⟨rfl,rfl⟩ | ⟨g,rfl,hg,_⟩
 ·obtain rfl:=mat_none hat
  exact one_none_3 st so dm ep w B
 ·exact one_some_3 st so dm ep B g _ c L w hO (jH rfl) hn hg hB
set_option maxRecDepth 100000 in
set_option maxHeartbeats 2000000 in
theorem send_any (k st so dm ep v x:Int) (ch:Bool) (A C:Option Addr) (c d:Nat) (L M:List Ed) (w:World) (hL:EAt w A L) (hM:EAt w C M) (hl:L.length <= 1000) (hm:M.length <= 1000) (hx0:-9223372036854775808 <= x) (hx1:x <= 9223372036854775807) :
 Calls Tryz.prog 79 #[.agg #[.int .u8 k,.int .i64 st,.int .i64 so,.int .i64 dm,.int .i64 ep],.int .i64 v,.int .i64 x,.bool ch,.slice A L.length c,.slice C M.length d] w fun e w' => ∃ r,e = .returned r/\Hid (MOwn w' w.heap.size r (sendM k v x ch L M))/\Hid (Below w.heap.size w w'):=by
 obtain ⟨W1,hW1⟩:∃ W1,W1 = w.alloc (.cells #[.int .u8 k,.int .i64 st,.int .i64 so,.int .i64 dm,.int .i64 ep] 40):=⟨_,rfl⟩
 have HB:Hid (Below w.heap.size w W1):=jH (by rw [hW1]; exact (Below.refl _ w).alloc (Nat.le_refl _) _)
 have HX:Hid (W1.heap[w.heap.size]? = some (.cells #[.int .u8 k,.int .i64 st,.int .i64 so,.int .i64 dm,.int .i64 ep] 40 (0,0))):=jH (by rw [hW1]; exact heap_alloc_new w _)
 by_cases h1:k = 1
 ·subst h1
  have hlk:=look_send_1 st so dm ep
  have HSM:=jH (sendM_one v x ch L M)
  have hsl:(sentR x L.length L).length <= 100000:=by unfold sentR; rw [List.length_map]; omega
  have HC:=jH (fun (W:World) (h:Below w.heap.size w W) => send_ranks 1 st so dm ep v x ch A C c d L M W (hL.below h) hl hx0 hx1)
  go_enter Tryz.func79,Tryz.ntmps79
  go_wp2_with fail
  refine (prog_1 st so dm ep _).mono ?_
  rintro e w2 ⟨rfl,hb2⟩
  have HB2:Hid (Below w.heap.size w w2):=jH (by rw [<- hW1] at hb2; exact step_below HB.out HB.out.size hb2)
  clear hb2 hW1 HB
  go_wp2_with fail
  refine (HC.out _ HB2.out).mono ?_
  rintro e w3 ⟨r3,rfl,HO3,hb3⟩
  have HB3:=jS HB2 hb3.out
  clear hb3
  go_wp2_with fail
  refine (one_1 st so dm ep w.heap.size r3 _ w3 (jH (HO3.out.mono HB2.out.size)) hsl HB3.out.size).mono ?_
  rintro e w4 ⟨r4,rfl,HO4,HB4⟩
  go_wp2
  go_ret
  exact ⟨_,rfl,by rw [HSM.out]; exact HO4,jH (HB3.out.trans HB4.out)⟩
 by_cases h2:k = 2
 ·subst h2
  have hlk:=look_send_2 st so dm ep
  have HSM:=jH (sendM_two v x ch L M)
  have hsl:(if ch = true then sentL x (nearL v L M) else []).length <= 100000:=by
   have:=near_length v L M
   cases ch <;> simp [sentL]; omega
  have HC:=jH (fun (W:World) (h:Below w.heap.size w W) => send_labels 2 st so dm ep v x ch A C c d L M W (hL.below h) (hM.below h) hl hm)
  go_enter Tryz.func79,Tryz.ntmps79
  go_wp2_with fail
  refine (prog_2 st so dm ep _).mono ?_
  rintro e w2 ⟨rfl,hb2⟩
  have HB2:Hid (Below w.heap.size w w2):=jH (by rw [<- hW1] at hb2; exact step_below HB.out HB.out.size hb2)
  clear hb2 hW1 HB
  go_wp2_with fail
  refine (HC.out _ HB2.out).mono ?_
  rintro e w3 ⟨r3,rfl,HO3,hb3⟩
  have HB3:=jS HB2 hb3.out
  clear hb3
  go_wp2_with fail
  refine (one_2 st so dm ep w.heap.size r3 _ w3 (jH (HO3.out.mono HB2.out.size)) hsl HB3.out.size).mono ?_
  rintro e w4 ⟨r4,rfl,HO4,HB4⟩
  go_wp2
  go_ret
  exact ⟨_,rfl,by rw [HSM.out]; exact HO4,jH (HB3.out.trans HB4.out)⟩
 by_cases h3:k = 3
 ·subst h3
  have hlk:=look_send_3 st so dm ep
  have HSM:=jH (sendM_three v x ch L M)
  have hsl:(if ch = true then sentP x L else []).length <= 100000:=by
   cases ch <;> simp [sentP]; omega
  have HC:=jH (fun (W:World) (h:Below w.heap.size w W) => send_distances 3 st so dm ep v x ch A C c d L M W (hL.below h) hl)
  go_enter Tryz.func79,Tryz.ntmps79
  go_wp2_with fail
  refine (prog_3 st so dm ep _).mono ?_
  rintro e w2 ⟨rfl,hb2⟩
  have HB2:Hid (Below w.heap.size w w2):=jH (by rw [<- hW1] at hb2; exact step_below HB.out HB.out.size hb2)
  clear hb2 hW1 HB
  go_wp2_with fail
  refine (HC.out _ HB2.out).mono ?_
  rintro e w3 ⟨r3,rfl,HO3,hb3⟩
  have HB3:=jS HB2 hb3.out
  clear hb3
  go_wp2_with fail
  refine (one_3 st so dm ep w.heap.size r3 _ w3 (jH (HO3.out.mono HB2.out.size)) hsl HB3.out.size).mono ?_
  rintro e w4 ⟨r4,rfl,HO4,HB4⟩
  go_wp2
  go_ret
  exact ⟨_,rfl,by rw [HSM.out]; exact HO4,jH (HB3.out.trans HB4.out)⟩
 have HSM:=jH (sendM_no k v x ch L M h1 h2 h3)
 go_enter Tryz.func79,Tryz.ntmps79
 go_wp2_with fail
 refine (prog_no k st so dm ep h1 h2 h3 _).mono ?_
 rintro e w2 ⟨rfl,hb2⟩
 have HB2:Hid (Below w.heap.size w w2):=jH (by rw [<- hW1] at hb2; exact step_below HB.out HB.out.size hb2)
 clear hb2 hW1 HB
 go_wp2
 go_ret
 exact ⟨_,rfl,by rw [HSM.out]; exact jH (MOwn.none_ _ _),HB2⟩
open Go.RowKit Go.Sort Gr Wd Ws Fx Rk Lb
theorem insM_mid (k t y:Int) (x:Ms) (hx:x.1 = t) (C:List Ms):∀ A:List Ms,(∀ z ∈ A,z.1 < t)->insM k (A ++ x :: C) (t,y) = A ++ (t,comb k x.2 y) :: C
 | [],_ => by show insM k (x :: C) (t,y) = _; unfold insM; rw [if_neg (by show ¬ x.1 < t; omega),if_pos hx]; rfl
 | a :: A,h => by
  show insM k (a :: (A ++ x :: C)) (t,y) = _
  rw [insM,if_pos (h a List.mem_cons_self),insM_mid k t y x hx C A (fun z hz => h z (List.mem_cons_of_mem _ hz))]; rfl
theorem insM_gap (k t y:Int) (C:List Ms) (hC:∀ x,C[0]? = some x->t < x.1):∀ A:List Ms,(∀ z ∈ A,z.1 < t)->insM k (A ++ C) (t,y) = A ++ (t,y) :: C
 | [],_ => by
  cases C with
  | nil => rfl
  | cons x C =>
   have:=hC x rfl
   show insM k (x :: C) (t,y) = _; unfold insM; rw [if_neg (by show ¬ x.1 < t; omega),if_neg (by show ¬ x.1 = t; omega)]; rfl
 | a :: A,h => by
  show insM k (a :: (A ++ C)) (t,y) = _
  rw [insM,if_pos (h a List.mem_cons_self),insM_gap k t y C hC A (fun z hz => h z (List.mem_cons_of_mem _ hz))]; rfl
def Low (l:List Ms) (t:Int) (q:Nat):Prop:=∀ (j:Nat) (x:Ms),j < q->l[j]? = some x->x.1 < t
theorem Low.mem {l:List Ms} {t:Int} {q:Nat} (h:Low l t q):∀ z ∈ l.take q,z.1 < t:=by
 intro z hz
 obtain ⟨j,hj⟩:=List.getElem?_of_mem hz
 rw [List.getElem?_take] at hj
 split at hj
 ·rename_i hlt; exact h j z hlt hj
 ·cases hj
theorem low_eq {k t y:Int} {l:List Ms} {q:Nat} {x:Ms} (h:Low l t q) (hx:l[q]? = some x) (e:x.1 = t):insM k l (t,y) = l.take q ++ (t,comb k x.2 y) :: l.drop (q + 1):=by
 have:=insM_mid k t y x e (l.drop (q + 1)) (l.take q) h.mem
 rw [<- drop_at hx,List.take_append_drop] at this
 exact this
theorem low_gap {k t y:Int} {l:List Ms} {q:Nat} (h:Low l t q) (hx:∀ x,l[q]? = some x->t < x.1):insM k l (t,y) = l.take q ++ (t,y) :: l.drop q:=by
 have:=insM_gap k t y (l.drop q) (fun x h => by rw [List.getElem?_drop,Nat.add_zero] at h; exact hx x h) (l.take q) h.mem
 rw [List.take_append_drop] at this
 exact this
theorem Low.step {l:List Ms} {t:Int} {q:Nat} {x:Ms} (h:Low l t q) (hx:l[q]? = some x) (e:x.1 < t):Low l t (q + 1):=by
 intro j z hj hz
 by_cases he:j = q
 ·subst he; rw [hx] at hz; cases hz; exact e
 ·exact h j z (by omega) hz
set_option maxRecDepth 100000 in
theorem rcomb_x (k st so dm ep a b:Int) (w:World):Calls Tryz.prog 122 #[.agg #[.int .u8 k,.int .i64 st,.int .i64 so,.int .i64 dm,.int .i64 ep],.int .i64 a,.int .i64 b] w fun e w' => e = .returned (.int .i64 (comb k a b))/\w' = w.alloc (.cells #[.int .u8 k,.int .i64 st,.int .i64 so,.int .i64 dm,.int .i64 ep] 40):=by
 obtain ⟨r,hr⟩:∃ r,comb k a b = r:=⟨_,rfl⟩
 rw [hr]
 by_cases h1:k = 1
 ·subst h1
  have HR:Hid (addI a b = r):=jH hr
  clear hr
  go_enter Tryz.func122,Tryz.ntmps122
  go_wp2_with fail
  refine (Pa.radd_of a b _).mono ?_
  rintro e w' ⟨rfl,rfl⟩
  go_wp2
  go_ret
  exact ⟨Fx.ret_int HR.out,rfl⟩
 have b1:(k == 1) = false:=by simp [h1]
 by_cases h2:k = 2
 ·subst h2
  have HR:Hid (min a b = r):=jH hr
  clear hr
  by_cases hab:a < b
  ·go_enter Tryz.func122,Tryz.ntmps122
   go_wp2
   all_goals (try (exfalso; omega))
   all_goals (go_ret; exact ⟨Fx.ret_int (by have:=HR.out; omega),rfl⟩)
  ·go_enter Tryz.func122,Tryz.ntmps122
   go_wp2
   all_goals (try (exfalso; omega))
   all_goals (go_ret; exact ⟨Fx.ret_int (by have:=HR.out; omega),rfl⟩)
 have b2:(k == 2) = false:=by simp [h2]
 by_cases h3:k = 3
 ·subst h3
  have HR:Hid (min a b = r):=jH hr
  clear hr
  by_cases hab:a < b
  ·go_enter Tryz.func122,Tryz.ntmps122
   go_wp2
   all_goals (try (exfalso; omega))
   all_goals (go_ret; exact ⟨Fx.ret_int (by have:=HR.out; omega),rfl⟩)
  ·go_enter Tryz.func122,Tryz.ntmps122
   go_wp2
   all_goals (try (exfalso; omega))
   all_goals (go_ret; exact ⟨Fx.ret_int (by have:=HR.out; omega),rfl⟩)
 have b3:(k == 3) = false:=by simp [h3]
 have e0:r = 0:=by rw [<- hr]; unfold comb; rw [if_neg h1,if_neg (by omega)]
 subst e0
 clear hr
 go_enter Tryz.func122,Tryz.ntmps122
 go_wp2
 go_ret
 exact ⟨rfl,rfl⟩
open Go.RowKit Gr Wd Ws Fx Rk Lb
def sttM (k V v so:Int):Int:=if k = 1 then giveI 4294967296 V else if k = 2 then v else if k = 3 then Pa.stt v so else 0
def sttB (k v so:Int):Bool:=if k = 1 then true else if k = 2 then true else if k = 3 then decide (v = so) else false
def cmpM (k V dm x:Int) (h:Bool) (m s:Int):Int:=if k = 1 then takeI V dm (gotI h m) s else if k = 2 then takM x h m else if k = 3 then Pa.tkm x h m else 0
def cmpB (k V dm x:Int) (h:Bool) (m s:Int):Bool:=if k = 1 then decide (¬ takeI V dm (gotI h m) s = x) else if k = 2 then takB x h m else if k = 3 then Pa.tkb x h m else false
def prtS (k v:Int) (n:Nat):Int:=if k = 1 then (if n = 0 then max v 0 else 0) else 0
def prtM (k a v:Int) (c:Bool):Int:=if k = 1 then apt a v else if k = 2\/k = 3 then (if c = true then 1 else 0) else 0
def jonS (k a b:Int):Int:=if k = 1\/k = 2\/k = 3 then addI a b else 0
def jonM (k a b:Int):Int:=if k = 1 then max a b else if k = 2\/k = 3 then addI a b else 0
def jobOk (k st so dm ep V:Int):Bool:=decide (0 <= st) && decide (st <= 2000) && (if k = 1 then decide (0 <= dm) && decide (dm <= 4294967296) && decide (0 <= ep) && decide (ep <= 4294967296) && decide (so = 0) else if k = 2 then decide (so = 0) && decide (dm = 0) && decide (ep = 0) else if k = 3 then decide (0 <= so) && decide (so < V) && decide (dm = 0) && decide (ep = 0) else false)
def chkJ (k st so dm ep V:Int) (L:List Ed):Int:=if chk V L = 0 then (if jobOk k st so dm ep V = true then 0 else 100) else chk V L
def donB (k st ep s m:Int):Bool:=if k = 1 then (decide (st <= s) || (decide (1 <= s) && decide (m <= ep))) else if k = 2\/k = 3 then (decide (st <= s) || (decide (1 <= s) && decide (m <= 0))) else false
theorem ret_tb {a a':Int} {b b':Bool} (h:a = a') (k:b = b'):Ending.returned (.tuple #[.int .i64 a,.bool b]) = .returned (.tuple #[.int .i64 a',.bool b']):=by rw [h,k]
theorem ret_ag {a a' b b':Int} (h:a = a') (k:b = b'):Ending.returned (.agg #[.int .i64 a,.int .i64 b]) = .returned (.agg #[.int .i64 a',.int .i64 b']):=by rw [h,k]
theorem at_alloc {w:World} {i:Nat} {x:Obj} (h:w.heap[i]? = some x) (o:Obj):(w.alloc o).heap[i]? = some x:=(((Below.refl _ w).alloc (Nat.le_refl _) o).block i (lt_of_block h)).trans h
theorem al2 (w:World) (a b:Obj):((w.alloc a).alloc b).heap[w.heap.size]? = some a/\((w.alloc a).alloc b).heap[w.heap.size + 1]? = some b/\Below w.heap.size w ((w.alloc a).alloc b):=by
 refine ⟨at_alloc (heap_alloc_new w a) b,?_,((Below.refl _ w).alloc (Nat.le_refl _) a).alloc (by simp) b⟩
 have:=heap_alloc_new (w.alloc a) b
 rw [show (w.alloc a).heap.size = w.heap.size + 1 by simp] at this; exact this
theorem al3 (w:World) (a b c:Obj):(((w.alloc a).alloc b).alloc c).heap[w.heap.size]? = some a/\(((w.alloc a).alloc b).alloc c).heap[w.heap.size + 1]? = some b/\(((w.alloc a).alloc b).alloc c).heap[w.heap.size + 2]? = some c/\Below w.heap.size w (((w.alloc a).alloc b).alloc c):=by
 obtain ⟨h1,h2,h3⟩:=al2 w a b
 refine ⟨at_alloc h1 c,at_alloc h2 c,?_,h3.alloc h3.size c⟩
 have:=heap_alloc_new ((w.alloc a).alloc b) c
 rw [show ((w.alloc a).alloc b).heap.size = w.heap.size + 2 by simp] at this; exact this
theorem al4 (w:World) (a b c d:Obj):((((w.alloc a).alloc b).alloc c).alloc d).heap[w.heap.size]? = some a/\((((w.alloc a).alloc b).alloc c).alloc d).heap[w.heap.size + 1]? = some b/\((((w.alloc a).alloc b).alloc c).alloc d).heap[w.heap.size + 2]? = some c/\((((w.alloc a).alloc b).alloc c).alloc d).heap[w.heap.size + 3]? = some d/\Below w.heap.size w ((((w.alloc a).alloc b).alloc c).alloc d):=by
 obtain ⟨h1,h2,h3,h4⟩:=al3 w a b c
 refine ⟨at_alloc h1 d,at_alloc h2 d,at_alloc h3 d,?_,h4.alloc h4.size d⟩
 have:=heap_alloc_new (((w.alloc a).alloc b).alloc c) d
 rw [show (((w.alloc a).alloc b).alloc c).heap.size = w.heap.size + 3 by simp] at this; exact this
theorem keep {w w':World} {i:Nat} {o:Obj} (h:w.heap[i]? = some o) (hb:Below w.heap.size w w'):w'.heap[i]? = some o:=(hb.block i (lt_of_block h)).trans h
theorem tot_cells {W:World} {b:Nat} {x y:Int} {T:TypeId} (h:W.heap[b]? = some (.cells #[.int .i64 x,.int .i64 y] T (0,0))):W.cell? ⟨b,0,none⟩ = some (.int .i64 x)/\W.cell? ⟨b,1,none⟩ = some (.int .i64 y)/\∀ j,W.frozen? ⟨b,j,none⟩ = false :=
 ⟨by rw [Lib.cell_of_heap h]; rfl,by rw [Lib.cell_of_heap h]; rfl,fun j => Lib.frozen_of_heap h j⟩
theorem jb_cells {W:World} {b:Nat} {k st so dm ep:Int} (h:W.heap[b]? = some (.cells #[.int .u8 k,.int .i64 st,.int .i64 so,.int .i64 dm,.int .i64 ep] 40 (0,0))):W.cell? ⟨b,0,none⟩ = some (.int .u8 k)/\W.cell? ⟨b,1,none⟩ = some (.int .i64 st)/\W.cell? ⟨b,2,none⟩ = some (.int .i64 so)/\W.cell? ⟨b,3,none⟩ = some (.int .i64 dm)/\W.cell? ⟨b,4,none⟩ = some (.int .i64 ep)/\b < W.heap.size :=
 ⟨by rw [Lib.cell_of_heap h]; rfl,by rw [Lib.cell_of_heap h]; rfl,by rw [Lib.cell_of_heap h]; rfl,by rw [Lib.cell_of_heap h]; rfl,by rw [Lib.cell_of_heap h]; rfl,lt_of_block h⟩
theorem put_tot {W:World} {b:Nat} {x y:Int} {T:TypeId} (h:W.heap[b]? = some (.cells #[.int .i64 x,.int .i64 y] T (0,0))) (p q:Int) :
 ((W.setCell ⟨b,0,none⟩ (.int .i64 p)).setCell ⟨b,1,none⟩ (.int .i64 q)).heap[b]? = some (.cells #[.int .i64 p,.int .i64 q] T (0,0)):=by
 have h1:=heap_setCell_same W b 0 _ T (.int .i64 p) h
 have h2:=heap_setCell_same _ b 1 _ T (.int .i64 q) h1
 exact h2
theorem addq (a b:Int) (w:World):Calls Tryz.prog 75 #[.int .i64 a,.int .i64 b] w fun e w' => e = .returned (.int .i64 (addI a b))/\Below w.heap.size w w' :=
 (Pa.add_of a b w).mono fun _ _ k => ⟨k.1,k.2 ▸ Below.refl _ _⟩
theorem raddq (a b:Int) (w:World):Calls Tryz.prog 30 #[.int .i64 a,.int .i64 b] w fun e w' => e = .returned (.int .i64 (addI a b))/\Below w.heap.size w w' :=
 (Pa.radd_of a b w).mono fun _ _ k => ⟨k.1,k.2 ▸ Below.refl _ _⟩
set_option maxRecDepth 100000 in
theorem comb_any (k st so dm ep a b:Int) (w:World):Calls Tryz.prog 111 #[.agg #[.int .u8 k,.int .i64 st,.int .i64 so,.int .i64 dm,.int .i64 ep],.int .i64 a,.int .i64 b] w fun e w' => e = .returned (.int .i64 (comb k a b))/\Below w.heap.size w w':=by
 have HB1:=fun (k:Int) => jH ((Below.refl _ w).alloc (Nat.le_refl _) (.cells #[.int .u8 k,.int .i64 st,.int .i64 so,.int .i64 dm,.int .i64 ep] 40))
 by_cases h1:k = 1
 ·subst h1
  have hl_combine:=look_combine_1 st so dm ep
  go_enter Tryz.func111,Tryz.ntmps111
  go_wp2_with fail
  refine (prog_1 st so dm ep _).mono ?_
  rintro e w2 ⟨rfl,hb2⟩
  have HB2:Hid (Below w.heap.size w w2):=jH (step_below (HB1 1).out (HB1 1).out.size hb2)
  clear hb2
  go_wp2_with fail
  refine (comb_ranks 1 st so dm ep a b _).mono ?_
  rintro e w3 ⟨rfl,hb3⟩
  have HB3:Hid (Below w.heap.size w w3):=jS HB2 hb3
  clear hb3
  go_wp2
  go_ret
  exact ⟨rfl,HB3.out⟩
 by_cases h2:k = 2
 ·subst h2
  have hl_combine:=look_combine_2 st so dm ep
  go_enter Tryz.func111,Tryz.ntmps111
  go_wp2_with fail
  refine (prog_2 st so dm ep _).mono ?_
  rintro e w2 ⟨rfl,hb2⟩
  have HB2:Hid (Below w.heap.size w w2):=jH (step_below (HB1 2).out (HB1 2).out.size hb2)
  clear hb2
  go_wp2_with fail
  refine (comb_least a b _).mono ?_
  rintro e w3 ⟨rfl,hb3⟩
  have HB3:Hid (Below w.heap.size w w3):=jS HB2 hb3
  clear hb3
  go_wp2
  go_ret
  exact ⟨rfl,HB3.out⟩
 by_cases h3:k = 3
 ·subst h3
  have hl_combine:=look_combine_3 st so dm ep
  go_enter Tryz.func111,Tryz.ntmps111
  go_wp2_with fail
  refine (prog_3 st so dm ep _).mono ?_
  rintro e w2 ⟨rfl,hb2⟩
  have HB2:Hid (Below w.heap.size w w2):=jH (step_below (HB1 3).out (HB1 3).out.size hb2)
  clear hb2
  go_wp2_with fail
  refine (comb_least a b _).mono ?_
  rintro e w3 ⟨rfl,hb3⟩
  have HB3:Hid (Below w.heap.size w w3):=jS HB2 hb3
  clear hb3
  go_wp2
  go_ret
  exact ⟨rfl,HB3.out⟩
 go_enter Tryz.func111,Tryz.ntmps111
 go_wp2_with fail
 refine (prog_no k st so dm ep h1 h2 h3 _).mono ?_
 rintro e w2 ⟨rfl,hb2⟩
 have HB2:Hid (Below w.heap.size w w2):=jH (step_below (HB1 k).out (HB1 k).out.size hb2)
 clear hb2
 go_wp2
 go_ret
 exact ⟨Fx.ret_int (by unfold comb; rw [if_neg h1,if_neg (by omega)]),HB2.out⟩
set_option maxRecDepth 100000 in
set_option maxHeartbeats 2000000 in
theorem join_any (k st so dm ep a b c d:Int) (w:World):Calls Tryz.prog 80 #[.agg #[.int .u8 k,.int .i64 st,.int .i64 so,.int .i64 dm,.int .i64 ep],.agg #[.int .i64 a,.int .i64 b],.agg #[.int .i64 c,.int .i64 d]] w fun e w' => e = .returned (.agg #[.int .i64 (jonS k a c),.int .i64 (jonM k b d)])/\Below w.heap.size w w':=by
 have mixed:=mixedO
 by_cases h1:k = 1
 ·subst h1
  obtain ⟨W1,hW1⟩:∃ W1,W1 = (((w.alloc (.cells #[.int .u8 1,.int .i64 st,.int .i64 so,.int .i64 dm,.int .i64 ep] 40)).alloc (.cells #[.int .i64 a,.int .i64 b] 132)).alloc (.cells #[.int .i64 c,.int .i64 d] 132)).alloc (.cells #[.int .i64 0,.int .i64 0] 132):=⟨_,rfl⟩
  have hal:=al4 w (.cells #[.int .u8 1,.int .i64 st,.int .i64 so,.int .i64 dm,.int .i64 ep] 40) (.cells #[.int .i64 a,.int .i64 b] 132) (.cells #[.int .i64 c,.int .i64 d] 132) (.cells #[.int .i64 0,.int .i64 0] 132)
  rw [<- hW1] at hal
  obtain ⟨b0,e0⟩:∃ b0,b0 = w.heap.size:=⟨_,rfl⟩
  obtain ⟨b1,e1⟩:∃ b1,b1 = w.heap.size + 1:=⟨_,rfl⟩
  obtain ⟨b2,e2⟩:∃ b2,b2 = w.heap.size + 2:=⟨_,rfl⟩
  obtain ⟨b3,e3⟩:∃ b3,b3 = w.heap.size + 3:=⟨_,rfl⟩
  obtain ⟨x0,x1,x2,x3,hb⟩:=hal
  rw [<- e0] at x0; rw [<- e1] at x1; rw [<- e2] at x2; rw [<- e3] at x3
  have X0:=jH x0; have X1:=jH x1; have X2:=jH x2; have X3:=jH x3; have HB:=jH hb
  have hge:w.heap.size <= b3:=by omega
  clear x0 x1 x2 x3 hb
  have hl:=look_joinChanges_1 st so dm ep
  go_enter Tryz.func80,Tryz.ntmps80
  go_upto_region 1 with fail
  rw [<- hW1]
  rw [show w.heap.size + 3 = b3 from e3.symm,show w.heap.size + 2 = b2 from e2.symm,show w.heap.size + 1 = b1 from e1.symm,show w.heap.size = b0 from e0.symm]
  have HGE:Hid (w.heap.size <= b3):=jH (by omega)
  clear hW1 e0 e1 e2 e3 hge
  obtain ⟨j0,j1,j2,j3,j4,_⟩:=jb_cells X0.out
  go_wp2_with fail
  clear j0 j1 j2 j3 j4
  refine (prog_1 st so dm ep _).mono ?_
  rintro e w2 ⟨rfl,hb2⟩
  have Y1:=jK X1 hb2; have Y2:=jK X2 hb2; have Y3:=jK X3 hb2; have HB2:=jS HB hb2
  clear hb2 X0 X1 X2 X3
  obtain ⟨y0,y1,_⟩:=tot_cells Y1.out
  obtain ⟨z0,z1,_⟩:=tot_cells Y2.out
  go_wp2_with fail
  have fy0:=cell_regrown y0; have fy1:=cell_regrown y1; have fz0:=cell_regrown z0; have fz1:=cell_regrown z1
  have C1:=jH (regr fun W (_:Below w2.heap.size w2 W) => addq a c W)
  have C2:=jH (regr fun W (_:Below w2.heap.size w2 W) => joinc_ranks 1 st so dm ep b d W)
  clear y0 y1 z0 z1
  refine Tl.region_tail_below 12 mixed (by kernel_rfl) ?_
  simp only [List.take_succ_cons,List.take_zero,List.drop_succ_cons,List.drop_zero]
  repeat (go_big_quiet_step ((with_reducible first | exact C1.out _ _ | exact C2.out _ _)))
  refine wpQuiet_nil ?_
  intro _ hw'
  obtain ⟨⟨dq,osq⟩,hw''⟩:=hw'
  subst hw''
  obtain ⟨W4,hW4⟩:∃ W4,W4 = Sort.grow (redrawn w2 dq) osq:=⟨_,rfl⟩
  have hb4:Below w2.heap.size w2 W4:=by rw [hW4]; exact below_regrown w2 dq osq
  rw [<- hW4]
  have Z3:=jK Y3 hb4
  have HB4:=jS HB2 hb4
  clear hW4 hb4 fy0 fy1 fz0 fz1 C1 C2
  obtain ⟨u0,u1,u2⟩:=tot_cells Z3.out
  go_wp2_with fail
  have hp:=put_tot Z3.out (addI a c) (max b d)
  obtain ⟨k0,k1,_⟩:=tot_cells hp
  have hB5:Below w.heap.size w ((W4.setCell ⟨b3,0,none⟩ (.int .i64 (addI a c))).setCell ⟨b3,1,none⟩ (.int .i64 (max b d))):=(HB4.out.setCell (p:=⟨b3,0,none⟩) HGE.out _).setCell (p:=⟨b3,1,none⟩) HGE.out _
  refine bodyPost_ret (v:=.agg #[.int .i64 (addI a c),.int .i64 (max b d)]) (by simp [results,Tryz.results80,go_sem,k0,k1]) rfl ⟨?_,hB5⟩
  exact ret_ag (by unfold jonS; simp) (by unfold jonM; simp)
 by_cases h2:k = 2
 ·subst h2
  obtain ⟨W1,hW1⟩:∃ W1,W1 = (((w.alloc (.cells #[.int .u8 2,.int .i64 st,.int .i64 so,.int .i64 dm,.int .i64 ep] 40)).alloc (.cells #[.int .i64 a,.int .i64 b] 132)).alloc (.cells #[.int .i64 c,.int .i64 d] 132)).alloc (.cells #[.int .i64 0,.int .i64 0] 132):=⟨_,rfl⟩
  have hal:=al4 w (.cells #[.int .u8 2,.int .i64 st,.int .i64 so,.int .i64 dm,.int .i64 ep] 40) (.cells #[.int .i64 a,.int .i64 b] 132) (.cells #[.int .i64 c,.int .i64 d] 132) (.cells #[.int .i64 0,.int .i64 0] 132)
  rw [<- hW1] at hal
  obtain ⟨b0,e0⟩:∃ b0,b0 = w.heap.size:=⟨_,rfl⟩
  obtain ⟨b1,e1⟩:∃ b1,b1 = w.heap.size + 1:=⟨_,rfl⟩
  obtain ⟨b2,e2⟩:∃ b2,b2 = w.heap.size + 2:=⟨_,rfl⟩
  obtain ⟨b3,e3⟩:∃ b3,b3 = w.heap.size + 3:=⟨_,rfl⟩
  obtain ⟨x0,x1,x2,x3,hb⟩:=hal
  rw [<- e0] at x0; rw [<- e1] at x1; rw [<- e2] at x2; rw [<- e3] at x3
  have X0:=jH x0; have X1:=jH x1; have X2:=jH x2; have X3:=jH x3; have HB:=jH hb
  have hge:w.heap.size <= b3:=by omega
  clear x0 x1 x2 x3 hb
  have hl:=look_joinChanges_2 st so dm ep
  go_enter Tryz.func80,Tryz.ntmps80
  go_upto_region 1 with fail
  rw [<- hW1]
  rw [show w.heap.size + 3 = b3 from e3.symm,show w.heap.size + 2 = b2 from e2.symm,show w.heap.size + 1 = b1 from e1.symm,show w.heap.size = b0 from e0.symm]
  have HGE:Hid (w.heap.size <= b3):=jH (by omega)
  clear hW1 e0 e1 e2 e3 hge
  obtain ⟨j0,j1,j2,j3,j4,_⟩:=jb_cells X0.out
  go_wp2_with fail
  clear j0 j1 j2 j3 j4
  refine (prog_2 st so dm ep _).mono ?_
  rintro e w2 ⟨rfl,hb2⟩
  have Y1:=jK X1 hb2; have Y2:=jK X2 hb2; have Y3:=jK X3 hb2; have HB2:=jS HB hb2
  clear hb2 X0 X1 X2 X3
  obtain ⟨y0,y1,_⟩:=tot_cells Y1.out
  obtain ⟨z0,z1,_⟩:=tot_cells Y2.out
  go_wp2_with fail
  have fy0:=cell_regrown y0; have fy1:=cell_regrown y1; have fz0:=cell_regrown z0; have fz1:=cell_regrown z1
  have C1:=jH (regr fun W (_:Below w2.heap.size w2 W) => addq a c W)
  have C2:=jH (regr fun W (_:Below w2.heap.size w2 W) => joinc_least b d W)
  clear y0 y1 z0 z1
  refine Tl.region_tail_below 12 mixed (by kernel_rfl) ?_
  simp only [List.take_succ_cons,List.take_zero,List.drop_succ_cons,List.drop_zero]
  repeat (go_big_quiet_step ((with_reducible first | exact C1.out _ _ | exact C2.out _ _)))
  refine wpQuiet_nil ?_
  intro _ hw'
  obtain ⟨⟨dq,osq⟩,hw''⟩:=hw'
  subst hw''
  obtain ⟨W4,hW4⟩:∃ W4,W4 = Sort.grow (redrawn w2 dq) osq:=⟨_,rfl⟩
  have hb4:Below w2.heap.size w2 W4:=by rw [hW4]; exact below_regrown w2 dq osq
  rw [<- hW4]
  have Z3:=jK Y3 hb4
  have HB4:=jS HB2 hb4
  clear hW4 hb4 fy0 fy1 fz0 fz1 C1 C2
  obtain ⟨u0,u1,u2⟩:=tot_cells Z3.out
  go_wp2_with fail
  have hp:=put_tot Z3.out (addI a c) (addI b d)
  obtain ⟨k0,k1,_⟩:=tot_cells hp
  have hB5:Below w.heap.size w ((W4.setCell ⟨b3,0,none⟩ (.int .i64 (addI a c))).setCell ⟨b3,1,none⟩ (.int .i64 (addI b d))):=(HB4.out.setCell (p:=⟨b3,0,none⟩) HGE.out _).setCell (p:=⟨b3,1,none⟩) HGE.out _
  refine bodyPost_ret (v:=.agg #[.int .i64 (addI a c),.int .i64 (addI b d)]) (by simp [results,Tryz.results80,go_sem,k0,k1]) rfl ⟨?_,hB5⟩
  exact ret_ag (by unfold jonS; simp) (by unfold jonM; simp)
 by_cases h3:k = 3
 ·subst h3
  obtain ⟨W1,hW1⟩:∃ W1,W1 = (((w.alloc (.cells #[.int .u8 3,.int .i64 st,.int .i64 so,.int .i64 dm,.int .i64 ep] 40)).alloc (.cells #[.int .i64 a,.int .i64 b] 132)).alloc (.cells #[.int .i64 c,.int .i64 d] 132)).alloc (.cells #[.int .i64 0,.int .i64 0] 132):=⟨_,rfl⟩
  have hal:=al4 w (.cells #[.int .u8 3,.int .i64 st,.int .i64 so,.int .i64 dm,.int .i64 ep] 40) (.cells #[.int .i64 a,.int .i64 b] 132) (.cells #[.int .i64 c,.int .i64 d] 132) (.cells #[.int .i64 0,.int .i64 0] 132)
  rw [<- hW1] at hal
  obtain ⟨b0,e0⟩:∃ b0,b0 = w.heap.size:=⟨_,rfl⟩
  obtain ⟨b1,e1⟩:∃ b1,b1 = w.heap.size + 1:=⟨_,rfl⟩
  obtain ⟨b2,e2⟩:∃ b2,b2 = w.heap.size + 2:=⟨_,rfl⟩
  obtain ⟨b3,e3⟩:∃ b3,b3 = w.heap.size + 3:=⟨_,rfl⟩
  obtain ⟨x0,x1,x2,x3,hb⟩:=hal
  rw [<- e0] at x0; rw [<- e1] at x1; rw [<- e2] at x2; rw [<- e3] at x3
  have X0:=jH x0; have X1:=jH x1; have X2:=jH x2; have X3:=jH x3; have HB:=jH hb
  have hge:w.heap.size <= b3:=by omega
  clear x0 x1 x2 x3 hb
  have hl:=look_joinChanges_3 st so dm ep
  go_enter Tryz.func80,Tryz.ntmps80
  go_upto_region 1 with fail
  rw [<- hW1]
  rw [show w.heap.size + 3 = b3 from e3.symm,show w.heap.size + 2 = b2 from e2.symm,show w.heap.size + 1 = b1 from e1.symm,show w.heap.size = b0 from e0.symm]
  have HGE:Hid (w.heap.size <= b3):=jH (by omega)
  clear hW1 e0 e1 e2 e3 hge
  obtain ⟨j0,j1,j2,j3,j4,_⟩:=jb_cells X0.out
  go_wp2_with fail
  clear j0 j1 j2 j3 j4
  refine (prog_3 st so dm ep _).mono ?_
  rintro e w2 ⟨rfl,hb2⟩
  have Y1:=jK X1 hb2; have Y2:=jK X2 hb2; have Y3:=jK X3 hb2; have HB2:=jS HB hb2
  clear hb2 X0 X1 X2 X3
  obtain ⟨y0,y1,_⟩:=tot_cells Y1.out
  obtain ⟨z0,z1,_⟩:=tot_cells Y2.out
  go_wp2_with fail
  have fy0:=cell_regrown y0; have fy1:=cell_regrown y1; have fz0:=cell_regrown z0; have fz1:=cell_regrown z1
  have C1:=jH (regr fun W (_:Below w2.heap.size w2 W) => addq a c W)
  have C2:=jH (regr fun W (_:Below w2.heap.size w2 W) => joinc_least b d W)
  clear y0 y1 z0 z1
  refine Tl.region_tail_below 12 mixed (by kernel_rfl) ?_
  simp only [List.take_succ_cons,List.take_zero,List.drop_succ_cons,List.drop_zero]
  repeat (go_big_quiet_step ((with_reducible first | exact C1.out _ _ | exact C2.out _ _)))
  refine wpQuiet_nil ?_
  intro _ hw'
  obtain ⟨⟨dq,osq⟩,hw''⟩:=hw'
  subst hw''
  obtain ⟨W4,hW4⟩:∃ W4,W4 = Sort.grow (redrawn w2 dq) osq:=⟨_,rfl⟩
  have hb4:Below w2.heap.size w2 W4:=by rw [hW4]; exact below_regrown w2 dq osq
  rw [<- hW4]
  have Z3:=jK Y3 hb4
  have HB4:=jS HB2 hb4
  clear hW4 hb4 fy0 fy1 fz0 fz1 C1 C2
  obtain ⟨u0,u1,u2⟩:=tot_cells Z3.out
  go_wp2_with fail
  have hp:=put_tot Z3.out (addI a c) (addI b d)
  obtain ⟨k0,k1,_⟩:=tot_cells hp
  have hB5:Below w.heap.size w ((W4.setCell ⟨b3,0,none⟩ (.int .i64 (addI a c))).setCell ⟨b3,1,none⟩ (.int .i64 (addI b d))):=(HB4.out.setCell (p:=⟨b3,0,none⟩) HGE.out _).setCell (p:=⟨b3,1,none⟩) HGE.out _
  refine bodyPost_ret (v:=.agg #[.int .i64 (addI a c),.int .i64 (addI b d)]) (by simp [results,Tryz.results80,go_sem,k0,k1]) rfl ⟨?_,hB5⟩
  exact ret_ag (by unfold jonS; simp) (by unfold jonM; simp)
 obtain ⟨W1,hW1⟩:∃ W1,W1 = (((w.alloc (.cells #[.int .u8 k,.int .i64 st,.int .i64 so,.int .i64 dm,.int .i64 ep] 40)).alloc (.cells #[.int .i64 a,.int .i64 b] 132)).alloc (.cells #[.int .i64 c,.int .i64 d] 132)).alloc (.cells #[.int .i64 0,.int .i64 0] 132):=⟨_,rfl⟩
 have hal:=al4 w (.cells #[.int .u8 k,.int .i64 st,.int .i64 so,.int .i64 dm,.int .i64 ep] 40) (.cells #[.int .i64 a,.int .i64 b] 132) (.cells #[.int .i64 c,.int .i64 d] 132) (.cells #[.int .i64 0,.int .i64 0] 132)
 rw [<- hW1] at hal
 obtain ⟨b0,e0⟩:∃ b0,b0 = w.heap.size:=⟨_,rfl⟩
 obtain ⟨b1,e1⟩:∃ b1,b1 = w.heap.size + 1:=⟨_,rfl⟩
 obtain ⟨b2,e2⟩:∃ b2,b2 = w.heap.size + 2:=⟨_,rfl⟩
 obtain ⟨b3,e3⟩:∃ b3,b3 = w.heap.size + 3:=⟨_,rfl⟩
 obtain ⟨x0,x1,x2,x3,hb⟩:=hal
 rw [<- e0] at x0; rw [<- e1] at x1; rw [<- e2] at x2; rw [<- e3] at x3
 have X0:=jH x0; have X1:=jH x1; have X2:=jH x2; have X3:=jH x3; have HB:=jH hb
 have hge:w.heap.size <= b3:=by omega
 clear x0 x1 x2 x3 hb
 go_enter Tryz.func80,Tryz.ntmps80
 go_upto_region 1 with fail
 rw [<- hW1]
 rw [show w.heap.size + 3 = b3 from e3.symm,show w.heap.size + 2 = b2 from e2.symm,show w.heap.size + 1 = b1 from e1.symm,show w.heap.size = b0 from e0.symm]
 have HGE:Hid (w.heap.size <= b3):=jH (by omega)
 clear hW1 e0 e1 e2 e3 hge
 obtain ⟨j0,j1,j2,j3,j4,_⟩:=jb_cells X0.out
 go_wp2_with fail
 clear j0 j1 j2 j3 j4
 refine (prog_no k st so dm ep h1 h2 h3 _).mono ?_
 rintro e W4 ⟨rfl,hb2⟩
 have Z3:=jK X3 hb2; have HB4:=jS HB hb2
 clear hb2 X0 X1 X2 X3
 obtain ⟨u0,u1,u2⟩:=tot_cells Z3.out
 go_wp2_with fail
 have hp:=put_tot Z3.out (0) (0)
 obtain ⟨k0,k1,_⟩:=tot_cells hp
 have hB5:Below w.heap.size w ((W4.setCell ⟨b3,0,none⟩ (.int .i64 (0))).setCell ⟨b3,1,none⟩ (.int .i64 (0))):=(HB4.out.setCell (p:=⟨b3,0,none⟩) HGE.out _).setCell (p:=⟨b3,1,none⟩) HGE.out _
 refine bodyPost_ret (v:=.agg #[.int .i64 (0),.int .i64 (0)]) (by simp [results,Tryz.results80,go_sem,k0,k1]) rfl ⟨?_,hB5⟩
 exact ret_ag (by unfold jonS; rw [if_neg (by omega)]) (by unfold jonM; rw [if_neg h1,if_neg (by omega)])
end Go.Proofs.YtdcaekmgfcpbmaaGreat.Al
