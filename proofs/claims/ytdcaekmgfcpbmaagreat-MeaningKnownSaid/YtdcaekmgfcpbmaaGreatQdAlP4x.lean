/-
  What is proved here: contracts of algos.Start and Compute. Conditions: numbers fit an int. What is proved here: contracts of algos.Done, Check and Part. Conditions: numbers fit an int.
-/
import Derived.Test.YtdcaekmgfcpbmaaGreatQdAlP2x
import Derived.Stop.Asserts
namespace Go.Proofs.YtdcaekmgfcpbmaaGreat.Al
open Go.RowKit Gr Wd Ws Fx Rk Lb
theorem start_ranks (k st so dm ep V v:Int) (hV0:-9223372036854775808 <= V) (hV1:V <= 9223372036854775807) (w:World):Calls Tryz.prog 153 #[.agg #[.int .u8 k,.int .i64 st,.int .i64 so,.int .i64 dm,.int .i64 ep],.int .i64 V,.int .i64 v] w fun e w' => e = .returned (.tuple #[.int .i64 (giveI 4294967296 V),.bool true])/\Below w.heap.size w w':=by
 have HB:=jH ((Below.refl _ w).alloc (Nat.le_refl _) (.cells #[.int .u8 k,.int .i64 st,.int .i64 so,.int .i64 dm,.int .i64 ep] 96))
 obtain ⟨g,hg⟩:∃ g,giveI 4294967296 V = g:=⟨_,rfl⟩
 have HG:=jH hg
 rw [hg]
 clear hg
 go_enter Tryz.func153,Tryz.ntmps153
 go_wp2_with fail
 refine (Rk.start_any V g _ HG hV0 hV1).mono ?_
 rintro e w' ⟨rfl,rfl⟩
 go_wp2
 go_ret2
 exact ⟨rfl,HB.out⟩
theorem start_labels (k st so dm ep V v:Int) (hv0:-9223372036854775808 <= v) (hv1:v <= 9223372036854775807) (w:World):Calls Tryz.prog 175 #[.agg #[.int .u8 k,.int .i64 st,.int .i64 so,.int .i64 dm,.int .i64 ep],.int .i64 V,.int .i64 v] w fun e w' => e = .returned (.tuple #[.int .i64 v,.bool true])/\Below w.heap.size w w':=by
 have HB:=jH ((Below.refl _ w).alloc (Nat.le_refl _) (.cells #[.int .u8 k,.int .i64 st,.int .i64 so,.int .i64 dm,.int .i64 ep] 100))
 have hw:IntKind.i64.wrap v = v:=by rw [IntKind.wrap_i64]; omega
 go_enter Tryz.func175,Tryz.ntmps175
 go_wp2
 go_ret2
 exact ⟨rfl,HB.out⟩
theorem start_distances (k st so dm ep V v:Int) (w:World):Calls Tryz.prog 202 #[.agg #[.int .u8 k,.int .i64 st,.int .i64 so,.int .i64 dm,.int .i64 ep],.int .i64 V,.int .i64 v] w fun e w' => e = .returned (.tuple #[.int .i64 (Pa.stt v so),.bool (decide (v = so))])/\Below w.heap.size w w':=by
 have mixed:=mixedO
 obtain ⟨W1,hW1⟩:∃ W1,W1 = w.alloc (.cells #[.int .u8 k,.int .i64 st,.int .i64 so,.int .i64 dm,.int .i64 ep] 101):=⟨_,rfl⟩
 have HB:Hid (Below w.heap.size w W1):=jH (by rw [hW1]; exact (Below.refl _ w).alloc (Nat.le_refl _) _)
 have x0:W1.heap[w.heap.size]? = some (.cells #[.int .u8 k,.int .i64 st,.int .i64 so,.int .i64 dm,.int .i64 ep] 101 (0,0)):=by rw [hW1]; exact heap_alloc_new w _
 obtain ⟨b0,e0⟩:∃ b0,b0 = w.heap.size:=⟨_,rfl⟩
 rw [<- e0] at x0
 have y2:W1.cell? ⟨b0,2,none⟩ = some (.int .i64 so):=by rw [Lib.cell_of_heap x0]; rfl
 have fy:=cell_regrown y2
 have C1:=jH (regr fun W (_:Below W1.heap.size W1 W) => ((Pa.start_any v so W).mono fun _ _ k => ⟨k.1,k.2 ▸ Below.refl _ _⟩:Calls Tryz.prog 49 #[.int .i64 v,.int .i64 so] W fun e w' => e = .returned (.int .i64 (Pa.stt v so))/\Below W.heap.size W w'))
 clear x0 y2
 go_enter Tryz.func202,Tryz.ntmps202
 go_upto_region 1 with fail
 rw [<- hW1]
 rw [show w.heap.size = b0 from e0.symm]
 clear hW1 e0
 go_wp2_with fail
 refine wp_region_quiet_below mixed (by kernel_rfl) ?_
 repeat (go_big_quiet_step ((with_reducible exact C1.out _ _)))
 refine wpQuiet_nil ?_
 intro _ hw'
 obtain ⟨⟨dq,osq⟩,hw''⟩:=hw'
 subst hw''
 have HB2:=jH (step_below HB.out HB.out.size (below_regrown W1 dq osq))
 go_wp2
 go_ret2
 exact ⟨ret_tb rfl (by first | rfl | (by_cases h:v = so <;> simp [h])),HB2.out⟩
set_option maxRecDepth 100000 in
theorem start_any (k st so dm ep V v:Int) (hV0:-9223372036854775808 <= V) (hV1:V <= 9223372036854775807) (hv0:-9223372036854775808 <= v) (hv1:v <= 9223372036854775807) (w:World):Calls Tryz.prog 59 #[.agg #[.int .u8 k,.int .i64 st,.int .i64 so,.int .i64 dm,.int .i64 ep],.int .i64 V,.int .i64 v] w fun e w' => e = .returned (.tuple #[.int .i64 (sttM k V v so),.bool (sttB k v so)])/\Below w.heap.size w w':=by
 have HB1:=fun (k:Int) => jH ((Below.refl _ w).alloc (Nat.le_refl _) (.cells #[.int .u8 k,.int .i64 st,.int .i64 so,.int .i64 dm,.int .i64 ep] 40))
 by_cases h1:k = 1
 ·subst h1
  have hl_start:=look_start_1 st so dm ep
  go_enter Tryz.func59,Tryz.ntmps59
  go_wp2_with fail
  refine (prog_1 st so dm ep _).mono ?_
  rintro e w2 ⟨rfl,hb2⟩
  have HB2:Hid (Below w.heap.size w w2):=jH (step_below (HB1 1).out (HB1 1).out.size hb2)
  clear hb2
  go_wp2_with fail
  refine (start_ranks 1 st so dm ep V v hV0 hV1 _).mono ?_
  rintro e w3 ⟨rfl,hb3⟩
  have HB3:Hid (Below w.heap.size w w3):=jS HB2 hb3
  clear hb3
  go_wp2
  go_ret2
  exact ⟨ret_tb (by unfold sttM; simp) (by unfold sttB; simp),HB3.out⟩
 by_cases h2:k = 2
 ·subst h2
  have hl_start:=look_start_2 st so dm ep
  go_enter Tryz.func59,Tryz.ntmps59
  go_wp2_with fail
  refine (prog_2 st so dm ep _).mono ?_
  rintro e w2 ⟨rfl,hb2⟩
  have HB2:Hid (Below w.heap.size w w2):=jH (step_below (HB1 2).out (HB1 2).out.size hb2)
  clear hb2
  go_wp2_with fail
  refine (start_labels 2 st so dm ep V v hv0 hv1 _).mono ?_
  rintro e w3 ⟨rfl,hb3⟩
  have HB3:Hid (Below w.heap.size w w3):=jS HB2 hb3
  clear hb3
  go_wp2
  go_ret2
  exact ⟨ret_tb (by unfold sttM; simp) (by unfold sttB; simp),HB3.out⟩
 by_cases h3:k = 3
 ·subst h3
  have hl_start:=look_start_3 st so dm ep
  go_enter Tryz.func59,Tryz.ntmps59
  go_wp2_with fail
  refine (prog_3 st so dm ep _).mono ?_
  rintro e w2 ⟨rfl,hb2⟩
  have HB2:Hid (Below w.heap.size w w2):=jH (step_below (HB1 3).out (HB1 3).out.size hb2)
  clear hb2
  go_wp2_with fail
  refine (start_distances 3 st so dm ep V v _).mono ?_
  rintro e w3 ⟨rfl,hb3⟩
  have HB3:Hid (Below w.heap.size w w3):=jS HB2 hb3
  clear hb3
  go_wp2
  go_ret2
  exact ⟨ret_tb (by unfold sttM; simp) (by unfold sttB; simp),HB3.out⟩
 go_enter Tryz.func59,Tryz.ntmps59
 go_wp2_with fail
 refine (prog_no k st so dm ep h1 h2 h3 _).mono ?_
 rintro e w2 ⟨rfl,hb2⟩
 have HB2:Hid (Below w.heap.size w w2):=jH (step_below (HB1 k).out (HB1 k).out.size hb2)
 clear hb2
 go_wp2
 go_ret2
 exact ⟨ret_tb (by unfold sttM; rw [if_neg h1,if_neg h2,if_neg h3]) (by unfold sttB; rw [if_neg h1,if_neg h2,if_neg h3]),HB2.out⟩
theorem taker_q (V d m s g:Int) (hg:Hid (takeI V d m s = g)) (hV0:-9223372036854775808 <= V) (hV1:V <= 9223372036854775807) (hd0:-9223372036854775808 <= d) (hd1:d <= 9223372036854775807) (hm0:-9223372036854775808 <= m) (hm1:m <= 9223372036854775807) (hs0:-9223372036854775808 <= s) (hs1:s <= 9223372036854775807) (w:World):Calls Tryz.prog 156 #[.int .i64 V,.int .i64 d,.int .i64 m,.int .i64 s] w fun e w' => e = .returned (.int .i64 g)/\Below w.heap.size w w' :=
 (Rk.take_any V d m s g w hg hV0 hV1 hd0 hd1 hm0 hm1 hs0 hs1).mono fun _ _ k => ⟨k.1,k.2.out⟩
theorem gotI_in (h:Bool) (m:Int) (h1:m <= 9223372036854775807):0 <= gotI h m/\gotI h m <= 9223372036854775807:=by unfold gotI; split <;> omega
set_option maxRecDepth 100000 in
set_option maxHeartbeats 1000000 in
theorem compute_ranks (k st so dm ep V x m s:Int) (h:Bool) (hV0:-9223372036854775808 <= V) (hV1:V <= 9223372036854775807) (hdm0:-9223372036854775808 <= dm) (hdm1:dm <= 9223372036854775807) (_hm0:-9223372036854775808 <= m) (hm1:m <= 9223372036854775807) (hs0:-9223372036854775808 <= s) (hs1:s <= 9223372036854775807) (w:World):Calls Tryz.prog 148 #[.agg #[.int .u8 k,.int .i64 st,.int .i64 so,.int .i64 dm,.int .i64 ep],.int .i64 V,.int .i64 x,.agg #[.bool h,.int .i64 m],.int .i64 s] w fun e w' => e = .returned (.tuple #[.int .i64 (takeI V dm (gotI h m) s),.bool (decide (¬ takeI V dm (gotI h m) s = x))])/\Below w.heap.size w w':=by
 have mixed:=mixedO
 obtain ⟨W1,hW1⟩:∃ W1,W1 = (w.alloc (.cells #[.int .u8 k,.int .i64 st,.int .i64 so,.int .i64 dm,.int .i64 ep] 96)).alloc (.cells #[.bool h,.int .i64 m] 114):=⟨_,rfl⟩
 have hal:=al2 w (.cells #[.int .u8 k,.int .i64 st,.int .i64 so,.int .i64 dm,.int .i64 ep] 96) (.cells #[.bool h,.int .i64 m] 114)
 rw [<- hW1] at hal
 obtain ⟨b0,e0⟩:∃ b0,b0 = w.heap.size:=⟨_,rfl⟩
 obtain ⟨b1,e1⟩:∃ b1,b1 = w.heap.size + 1:=⟨_,rfl⟩
 obtain ⟨x0,x1,hb⟩:=hal
 rw [<- e0] at x0; rw [<- e1] at x1
 have HB:=jH hb
 obtain ⟨G,hG⟩:∃ G,gotI h m = G:=⟨_,rfl⟩
 have hgi:=gotI_in h m hm1
 rw [hG] at hgi
 obtain ⟨r,hr⟩:∃ r,takeI V dm G s = r:=⟨_,rfl⟩
 have HR:=jH hr
 rw [hG,hr]
 have c1:∀ W,Calls Tryz.prog 157 #[.agg #[.bool h,.int .i64 m]] W fun e w' => e = .returned (.int .i64 G)/\Below W.heap.size W w':=fun W => by rw [<- hG]; exact sentTo_any h m W
 have C1:=jH (regr fun W (_:Below W1.heap.size W1 W) => c1 W)
 have C2:=jH (regr fun W (_:Below W1.heap.size W1 W) => taker_q V dm G s r HR hV0 hV1 hdm0 hdm1 (by omega) hgi.2 hs0 hs1 W)
 have y3:W1.cell? ⟨b0,3,none⟩ = some (.int .i64 dm):=by rw [Lib.cell_of_heap x0]; rfl
 have m0:W1.cell? ⟨b1,0,none⟩ = some (.bool h):=by rw [Lib.cell_of_heap x1]; rfl
 have m1:W1.cell? ⟨b1,1,none⟩ = some (.int .i64 m):=by rw [Lib.cell_of_heap x1]; rfl
 have fy:=cell_regrown y3; have f0:=cell_regrown m0; have f1:=cell_regrown m1
 clear c1 x0 x1 hb hG hgi hr y3 m0 m1
 go_enter Tryz.func148,Tryz.ntmps148
 go_upto_region 1 with fail
 rw [<- hW1]
 rw [show w.heap.size + 1 = b1 from e1.symm,show w.heap.size = b0 from e0.symm]
 clear hW1 e0 e1
 go_wp2_with fail
 refine wp_region_quiet_below mixed (by kernel_rfl) ?_
 repeat (go_big_quiet_step ((with_reducible first | exact C1.out _ _ | exact C2.out _ _)))
 refine wpQuiet_nil ?_
 intro _ hw'
 obtain ⟨⟨dq,osq⟩,hw''⟩:=hw'
 subst hw''
 have HB2:=jH (step_below HB.out HB.out.size (below_regrown W1 dq osq))
 go_wp2
 go_ret2
 exact ⟨ret_tb rfl (by first | rfl | (by_cases h:r = x <;> simp [h,bne])),HB2.out⟩
theorem compute_labels (k st so dm ep V x m s:Int) (h:Bool) (w:World):Calls Tryz.prog 172 #[.agg #[.int .u8 k,.int .i64 st,.int .i64 so,.int .i64 dm,.int .i64 ep],.int .i64 V,.int .i64 x,.agg #[.bool h,.int .i64 m],.int .i64 s] w fun e w' => e = .returned (.tuple #[.int .i64 (takM x h m),.bool (takB x h m)])/\Below w.heap.size w w':=by
 have hal:=al2 w (.cells #[.int .u8 k,.int .i64 st,.int .i64 so,.int .i64 dm,.int .i64 ep] 100) (.cells #[.bool h,.int .i64 m] 114)
 have HB:=jH hal.2.2
 clear hal
 go_enter Tryz.func172,Tryz.ntmps172
 go_wp2_with fail
 refine (Lb.take_any x m h _).mono ?_
 rintro e w' ⟨rfl,hb⟩
 have HB2:=jS HB hb
 clear hb
 go_wp2
 go_ret2
 exact ⟨rfl,HB2.out⟩
theorem compute_distances (k st so dm ep V x m s:Int) (h:Bool) (w:World):Calls Tryz.prog 199 #[.agg #[.int .u8 k,.int .i64 st,.int .i64 so,.int .i64 dm,.int .i64 ep],.int .i64 V,.int .i64 x,.agg #[.bool h,.int .i64 m],.int .i64 s] w fun e w' => e = .returned (.tuple #[.int .i64 (Pa.tkm x h m),.bool (Pa.tkb x h m)])/\Below w.heap.size w w':=by
 have hal:=al2 w (.cells #[.int .u8 k,.int .i64 st,.int .i64 so,.int .i64 dm,.int .i64 ep] 101) (.cells #[.bool h,.int .i64 m] 114)
 have HB:=jH hal.2.2
 clear hal
 go_enter Tryz.func199,Tryz.ntmps199
 go_wp2_with fail
 refine (Pa.take_any x m h _).mono ?_
 rintro e w' ⟨rfl,hb⟩
 have HB2:=jS HB hb
 clear hb
 go_wp2
 go_ret2
 exact ⟨rfl,HB2.out⟩
set_option maxRecDepth 100000 in
set_option maxHeartbeats 1000000 in
theorem compute_any (k st so dm ep V x m s:Int) (h:Bool) (hV0:-9223372036854775808 <= V) (hV1:V <= 9223372036854775807) (hdm0:-9223372036854775808 <= dm) (hdm1:dm <= 9223372036854775807) (hm0:-9223372036854775808 <= m) (hm1:m <= 9223372036854775807) (hs0:-9223372036854775808 <= s) (hs1:s <= 9223372036854775807) (w:World):Calls Tryz.prog 61 #[.agg #[.int .u8 k,.int .i64 st,.int .i64 so,.int .i64 dm,.int .i64 ep],.int .i64 V,.int .i64 x,.agg #[.bool h,.int .i64 m],.int .i64 s] w fun e w' => e = .returned (.tuple #[.int .i64 (cmpM k V dm x h m s),.bool (cmpB k V dm x h m s)])/\Below w.heap.size w w':=by
 by_cases h1:k = 1
 ·subst h1
  have hl:=look_compute_1 st so dm ep
  obtain ⟨W1,hW1⟩:∃ W1,W1 = (w.alloc (.cells #[.int .u8 1,.int .i64 st,.int .i64 so,.int .i64 dm,.int .i64 ep] 40)).alloc (.cells #[.bool h,.int .i64 m] 114):=⟨_,rfl⟩
  have hal:=al2 w (.cells #[.int .u8 1,.int .i64 st,.int .i64 so,.int .i64 dm,.int .i64 ep] 40) (.cells #[.bool h,.int .i64 m] 114)
  rw [<- hW1] at hal
  obtain ⟨b0,e0⟩:∃ b0,b0 = w.heap.size:=⟨_,rfl⟩
  obtain ⟨b1,e1⟩:∃ b1,b1 = w.heap.size + 1:=⟨_,rfl⟩
  obtain ⟨x0,x1,hb⟩:=hal
  rw [<- e0] at x0; rw [<- e1] at x1
  have X0:=jH x0; have X1:=jH x1; have HB:=jH hb
  clear x0 x1 hb
  go_enter Tryz.func61,Tryz.ntmps61
  go_upto_region 1 with fail
  rw [<- hW1]
  rw [show w.heap.size + 1 = b1 from e1.symm,show w.heap.size = b0 from e0.symm]
  clear hW1 e0 e1
  obtain ⟨j0,j1,j2,j3,j4,_⟩:=jb_cells X0.out
  go_wp2_with fail
  clear j0 j1 j2 j3 j4
  refine (prog_1 st so dm ep _).mono ?_
  rintro e w2 ⟨rfl,hb2⟩
  have Y1:=jK X1 hb2; have HB2:=jS HB hb2
  clear hb2 X0 X1
  have m0:w2.cell? ⟨b1,0,none⟩ = some (.bool h):=by rw [Lib.cell_of_heap Y1.out]; rfl
  have m1:w2.cell? ⟨b1,1,none⟩ = some (.int .i64 m):=by rw [Lib.cell_of_heap Y1.out]; rfl
  go_wp2_with fail
  refine (compute_ranks 1 st so dm ep V x m s h hV0 hV1 hdm0 hdm1 hm0 hm1 hs0 hs1 _).mono ?_
  rintro e w3 ⟨rfl,hb3⟩
  have HB3:=jS HB2 hb3
  clear hb3 m0 m1
  go_wp2
  go_ret2
  exact ⟨ret_tb (by unfold cmpM; simp) (by unfold cmpB; simp),HB3.out⟩
 by_cases h2:k = 2
 ·subst h2
  have hl:=look_compute_2 st so dm ep
  obtain ⟨W1,hW1⟩:∃ W1,W1 = (w.alloc (.cells #[.int .u8 2,.int .i64 st,.int .i64 so,.int .i64 dm,.int .i64 ep] 40)).alloc (.cells #[.bool h,.int .i64 m] 114):=⟨_,rfl⟩
  have hal:=al2 w (.cells #[.int .u8 2,.int .i64 st,.int .i64 so,.int .i64 dm,.int .i64 ep] 40) (.cells #[.bool h,.int .i64 m] 114)
  rw [<- hW1] at hal
  obtain ⟨b0,e0⟩:∃ b0,b0 = w.heap.size:=⟨_,rfl⟩
  obtain ⟨b1,e1⟩:∃ b1,b1 = w.heap.size + 1:=⟨_,rfl⟩
  obtain ⟨x0,x1,hb⟩:=hal
  rw [<- e0] at x0; rw [<- e1] at x1
  have X0:=jH x0; have X1:=jH x1; have HB:=jH hb
  clear x0 x1 hb
  go_enter Tryz.func61,Tryz.ntmps61
  go_upto_region 1 with fail
  rw [<- hW1]
  rw [show w.heap.size + 1 = b1 from e1.symm,show w.heap.size = b0 from e0.symm]
  clear hW1 e0 e1
  obtain ⟨j0,j1,j2,j3,j4,_⟩:=jb_cells X0.out
  go_wp2_with fail
  clear j0 j1 j2 j3 j4
  refine (prog_2 st so dm ep _).mono ?_
  rintro e w2 ⟨rfl,hb2⟩
  have Y1:=jK X1 hb2; have HB2:=jS HB hb2
  clear hb2 X0 X1
  have m0:w2.cell? ⟨b1,0,none⟩ = some (.bool h):=by rw [Lib.cell_of_heap Y1.out]; rfl
  have m1:w2.cell? ⟨b1,1,none⟩ = some (.int .i64 m):=by rw [Lib.cell_of_heap Y1.out]; rfl
  go_wp2_with fail
  refine (compute_labels 2 st so dm ep V x m s h _).mono ?_
  rintro e w3 ⟨rfl,hb3⟩
  have HB3:=jS HB2 hb3
  clear hb3 m0 m1
  go_wp2
  go_ret2
  exact ⟨ret_tb (by unfold cmpM; simp) (by unfold cmpB; simp),HB3.out⟩
 by_cases h3:k = 3
 ·subst h3
  have hl:=look_compute_3 st so dm ep
  obtain ⟨W1,hW1⟩:∃ W1,W1 = (w.alloc (.cells #[.int .u8 3,.int .i64 st,.int .i64 so,.int .i64 dm,.int .i64 ep] 40)).alloc (.cells #[.bool h,.int .i64 m] 114):=⟨_,rfl⟩
  have hal:=al2 w (.cells #[.int .u8 3,.int .i64 st,.int .i64 so,.int .i64 dm,.int .i64 ep] 40) (.cells #[.bool h,.int .i64 m] 114)
  rw [<- hW1] at hal
  obtain ⟨b0,e0⟩:∃ b0,b0 = w.heap.size:=⟨_,rfl⟩
  obtain ⟨b1,e1⟩:∃ b1,b1 = w.heap.size + 1:=⟨_,rfl⟩
  obtain ⟨x0,x1,hb⟩:=hal
  rw [<- e0] at x0; rw [<- e1] at x1
  have X0:=jH x0; have X1:=jH x1; have HB:=jH hb
  clear x0 x1 hb
  go_enter Tryz.func61,Tryz.ntmps61
  go_upto_region 1 with fail
  rw [<- hW1]
  rw [show w.heap.size + 1 = b1 from e1.symm,show w.heap.size = b0 from e0.symm]
  clear hW1 e0 e1
  obtain ⟨j0,j1,j2,j3,j4,_⟩:=jb_cells X0.out
  go_wp2_with fail
  clear j0 j1 j2 j3 j4
  refine (prog_3 st so dm ep _).mono ?_
  rintro e w2 ⟨rfl,hb2⟩
  have Y1:=jK X1 hb2; have HB2:=jS HB hb2
  clear hb2 X0 X1
  have m0:w2.cell? ⟨b1,0,none⟩ = some (.bool h):=by rw [Lib.cell_of_heap Y1.out]; rfl
  have m1:w2.cell? ⟨b1,1,none⟩ = some (.int .i64 m):=by rw [Lib.cell_of_heap Y1.out]; rfl
  go_wp2_with fail
  refine (compute_distances 3 st so dm ep V x m s h _).mono ?_
  rintro e w3 ⟨rfl,hb3⟩
  have HB3:=jS HB2 hb3
  clear hb3 m0 m1
  go_wp2
  go_ret2
  exact ⟨ret_tb (by unfold cmpM; simp) (by unfold cmpB; simp),HB3.out⟩
 obtain ⟨W1,hW1⟩:∃ W1,W1 = (w.alloc (.cells #[.int .u8 k,.int .i64 st,.int .i64 so,.int .i64 dm,.int .i64 ep] 40)).alloc (.cells #[.bool h,.int .i64 m] 114):=⟨_,rfl⟩
 have hal:=al2 w (.cells #[.int .u8 k,.int .i64 st,.int .i64 so,.int .i64 dm,.int .i64 ep] 40) (.cells #[.bool h,.int .i64 m] 114)
 rw [<- hW1] at hal
 obtain ⟨b0,e0⟩:∃ b0,b0 = w.heap.size:=⟨_,rfl⟩
 obtain ⟨b1,e1⟩:∃ b1,b1 = w.heap.size + 1:=⟨_,rfl⟩
 obtain ⟨x0,x1,hb⟩:=hal
 rw [<- e0] at x0; rw [<- e1] at x1
 have X0:=jH x0; have X1:=jH x1; have HB:=jH hb
 clear x0 x1 hb
 go_enter Tryz.func61,Tryz.ntmps61
 go_upto_region 1 with fail
 rw [<- hW1]
 rw [show w.heap.size + 1 = b1 from e1.symm,show w.heap.size = b0 from e0.symm]
 clear hW1 e0 e1
 obtain ⟨j0,j1,j2,j3,j4,_⟩:=jb_cells X0.out
 go_wp2_with fail
 clear j0 j1 j2 j3 j4
 refine (prog_no k st so dm ep h1 h2 h3 _).mono ?_
 rintro e w2 ⟨rfl,hb2⟩
 have HB2:=jS HB hb2
 clear hb2
 go_wp2
 go_ret2
 exact ⟨ret_tb (by unfold cmpM; rw [if_neg h1,if_neg h2,if_neg h3]) (by unfold cmpB; rw [if_neg h1,if_neg h2,if_neg h3]),HB2.out⟩
open Go.RowKit Gr Wd Ws Fx Rk Lb
theorem may_ranks (k st so dm ep V:Int) (w:World):Calls Tryz.prog 151 #[.agg #[.int .u8 k,.int .i64 st,.int .i64 so,.int .i64 dm,.int .i64 ep],.int .i64 V] w fun e w' => e = .returned (.bool (decide (0 <= dm/\dm <= 4294967296) && decide (0 <= ep/\ep <= 4294967296) && decide (so = 0)))/\Below w.heap.size w w':=by
 have HB:=jH ((Below.refl _ w).alloc (Nat.le_refl _) (.cells #[.int .u8 k,.int .i64 st,.int .i64 so,.int .i64 dm,.int .i64 ep] 96))
 obtain ⟨p,hp⟩:∃ p,decide (0 <= dm/\dm <= 4294967296) = p:=⟨_,rfl⟩
 obtain ⟨q,hq⟩:∃ q,decide (0 <= ep/\ep <= 4294967296) = q:=⟨_,rfl⟩
 have c1:=fun W => isFraction_any dm W
 have c2:=fun W => isFraction_any ep W
 rw [hp] at c1 ⊢
 rw [hq] at c2 ⊢
 have C1:=jH c1; have C2:=jH c2
 clear c1 c2 hp hq
 cases p
 ·go_enter Tryz.func151,Tryz.ntmps151
  go_wp2_with fail
  refine (C1.out _).mono ?_
  rintro e w' ⟨rfl,rfl⟩
  go_wp2
  go_ret
  exact ⟨ret_b (by simp),HB.out⟩
 ·cases q
  ·go_enter Tryz.func151,Tryz.ntmps151
   go_wp2_with fail
   refine (C1.out _).mono ?_
   rintro e w' ⟨rfl,rfl⟩
   go_wp2_with fail
   refine (C2.out _).mono ?_
   rintro e w' ⟨rfl,rfl⟩
   go_wp2
   go_ret
   exact ⟨ret_b (by simp),HB.out⟩
  ·go_enter Tryz.func151,Tryz.ntmps151
   go_wp2_with fail
   refine (C1.out _).mono ?_
   rintro e w' ⟨rfl,rfl⟩
   go_wp2_with fail
   refine (C2.out _).mono ?_
   rintro e w' ⟨rfl,rfl⟩
   go_wp2
   go_ret
   exact ⟨ret_b (by by_cases h:so = 0 <;> simp [h]),HB.out⟩
theorem may_labels (k st so dm ep V:Int) (w:World):Calls Tryz.prog 173 #[.agg #[.int .u8 k,.int .i64 st,.int .i64 so,.int .i64 dm,.int .i64 ep],.int .i64 V] w fun e w' => e = .returned (.bool (decide (so = 0) && decide (dm = 0) && decide (ep = 0)))/\Below w.heap.size w w':=by
 have HB:=fun (so dm ep:Int) => jH ((Below.refl _ w).alloc (Nat.le_refl _) (.cells #[.int .u8 k,.int .i64 st,.int .i64 so,.int .i64 dm,.int .i64 ep] 100))
 by_cases g0:so = 0
 ·skip
  by_cases g1:dm = 0
  ·skip
   by_cases g2:ep = 0
   ·skip
    go_enter Tryz.func173,Tryz.ntmps173
    go_wp2
    all_goals (go_ret; exact ⟨ret_b (by first | (simp [*]; done) | (simp [*]; omega) | (simp; omega)),(HB _ _ _).out⟩)
   ·go_enter Tryz.func173,Tryz.ntmps173
    go_wp2
    all_goals (go_ret; exact ⟨ret_b (by first | (simp [*]; done) | (simp [*]; omega) | (simp; omega)),(HB _ _ _).out⟩)
  ·go_enter Tryz.func173,Tryz.ntmps173
   go_wp2
   all_goals (go_ret; exact ⟨ret_b (by first | (simp [*]; done) | (simp [*]; omega) | (simp; omega)),(HB _ _ _).out⟩)
 ·go_enter Tryz.func173,Tryz.ntmps173
  go_wp2
  all_goals (go_ret; exact ⟨ret_b (by first | (simp [*]; done) | (simp [*]; omega) | (simp; omega)),(HB _ _ _).out⟩)
theorem may_distances (k st so dm ep V:Int) (w:World):Calls Tryz.prog 200 #[.agg #[.int .u8 k,.int .i64 st,.int .i64 so,.int .i64 dm,.int .i64 ep],.int .i64 V] w fun e w' => e = .returned (.bool (decide (0 <= so) && decide (so < V) && decide (dm = 0) && decide (ep = 0)))/\Below w.heap.size w w':=by
 have HB:=fun (so dm ep:Int) => jH ((Below.refl _ w).alloc (Nat.le_refl _) (.cells #[.int .u8 k,.int .i64 st,.int .i64 so,.int .i64 dm,.int .i64 ep] 101))
 by_cases g0:0 <= so
 ·skip
  by_cases g1:so < V
  ·skip
   by_cases g2:dm = 0
   ·skip
    by_cases g3:ep = 0
    ·skip
     go_enter Tryz.func200,Tryz.ntmps200
     go_wp2
     all_goals (go_ret; exact ⟨ret_b (by first | (simp [*]; done) | (simp [*]; omega) | (simp; omega)),(HB _ _ _).out⟩)
    ·go_enter Tryz.func200,Tryz.ntmps200
     go_wp2
     all_goals (go_ret; exact ⟨ret_b (by first | (simp [*]; done) | (simp [*]; omega) | (simp; omega)),(HB _ _ _).out⟩)
   ·go_enter Tryz.func200,Tryz.ntmps200
    go_wp2
    all_goals (go_ret; exact ⟨ret_b (by first | (simp [*]; done) | (simp [*]; omega) | (simp; omega)),(HB _ _ _).out⟩)
  ·go_enter Tryz.func200,Tryz.ntmps200
   go_wp2
   all_goals (go_ret; exact ⟨ret_b (by first | (simp [*]; done) | (simp [*]; omega) | (simp; omega)),(HB _ _ _).out⟩)
 ·go_enter Tryz.func200,Tryz.ntmps200
  go_wp2
  all_goals (go_ret; exact ⟨ret_b (by first | (simp [*]; done) | (simp [*]; omega) | (simp; omega)),(HB _ _ _).out⟩)
set_option maxRecDepth 100000 in
set_option maxHeartbeats 1000000 in
theorem done_any (k st so dm ep s m:Int) (w:World):Calls Tryz.prog 37 #[.agg #[.int .u8 k,.int .i64 st,.int .i64 so,.int .i64 dm,.int .i64 ep],.int .i64 s,.int .i64 m] w fun e w' => e = .returned (.bool (donB k st ep s m))/\Below w.heap.size w w':=by
 by_cases h1:k = 1
 ·subst h1
  by_cases g0:st <= s
  ·have hl:=look_still_1 st so dm ep
   obtain ⟨W1,hW1⟩:∃ W1,W1 = w.alloc (.cells #[.int .u8 1,.int .i64 st,.int .i64 so,.int .i64 dm,.int .i64 ep] 40):=⟨_,rfl⟩
   have HB:Hid (Below w.heap.size w W1):=jH (by rw [hW1]; exact (Below.refl _ w).alloc (Nat.le_refl _) _)
   have x0:W1.heap[w.heap.size]? = some (.cells #[.int .u8 1,.int .i64 st,.int .i64 so,.int .i64 dm,.int .i64 ep] 40 (0,0)):=by rw [hW1]; exact heap_alloc_new w _
   obtain ⟨b0,e0⟩:∃ b0,b0 = w.heap.size:=⟨_,rfl⟩
   rw [<- e0] at x0
   have X0:=jH x0
   clear x0
   go_enter Tryz.func37,Tryz.ntmps37
   go_upto_region 1 with fail
   rw [<- hW1]
   rw [show w.heap.size = b0 from e0.symm]
   clear hW1 e0
   obtain ⟨j0,j1,j2,j3,j4,_⟩:=jb_cells X0.out
   go_wp2_with fail
   clear j0 j1 j2 j3 j4
   refine (prog_1 st so dm ep _).mono ?_
   rintro e w2 ⟨rfl,hb2⟩
   have HB2:=jS HB hb2
   obtain ⟨j0,j1,j2,j3,j4,_⟩:=jb_cells (keep X0.out hb2)
   clear hb2 X0 j0 j2 j3 j4
   go_wp2
   all_goals (go_ret; exact ⟨ret_b (by simp [donB, *]; try omega),HB2.out⟩)
  ·by_cases g1:1 <= s
   ·have hl:=look_still_1 st so dm ep
    obtain ⟨W1,hW1⟩:∃ W1,W1 = w.alloc (.cells #[.int .u8 1,.int .i64 st,.int .i64 so,.int .i64 dm,.int .i64 ep] 40):=⟨_,rfl⟩
    have HB:Hid (Below w.heap.size w W1):=jH (by rw [hW1]; exact (Below.refl _ w).alloc (Nat.le_refl _) _)
    have x0:W1.heap[w.heap.size]? = some (.cells #[.int .u8 1,.int .i64 st,.int .i64 so,.int .i64 dm,.int .i64 ep] 40 (0,0)):=by rw [hW1]; exact heap_alloc_new w _
    obtain ⟨b0,e0⟩:∃ b0,b0 = w.heap.size:=⟨_,rfl⟩
    rw [<- e0] at x0
    have X0:=jH x0
    clear x0
    go_enter Tryz.func37,Tryz.ntmps37
    go_upto_region 1 with fail
    rw [<- hW1]
    rw [show w.heap.size = b0 from e0.symm]
    clear hW1 e0
    obtain ⟨j0,j1,j2,j3,j4,_⟩:=jb_cells X0.out
    go_wp2_with fail
    clear j0 j1 j2 j3 j4
    refine (prog_1 st so dm ep _).mono ?_
    rintro e w2 ⟨rfl,hb2⟩
    have HB2:=jS HB hb2
    obtain ⟨j0,j1,j2,j3,j4,_⟩:=jb_cells (keep X0.out hb2)
    clear hb2 X0 j0 j2 j3 j4
    go_wp2_with fail
    refine (still_ranks 1 st so dm ep _).mono ?_
    rintro e w3 ⟨rfl,hb3⟩
    have HB3:=jS HB2 hb3
    clear hb3 j1
    go_wp2
    all_goals (go_ret; exact ⟨ret_b (by simp [donB, *]; try omega),HB3.out⟩)
   ·have hl:=look_still_1 st so dm ep
    obtain ⟨W1,hW1⟩:∃ W1,W1 = w.alloc (.cells #[.int .u8 1,.int .i64 st,.int .i64 so,.int .i64 dm,.int .i64 ep] 40):=⟨_,rfl⟩
    have HB:Hid (Below w.heap.size w W1):=jH (by rw [hW1]; exact (Below.refl _ w).alloc (Nat.le_refl _) _)
    have x0:W1.heap[w.heap.size]? = some (.cells #[.int .u8 1,.int .i64 st,.int .i64 so,.int .i64 dm,.int .i64 ep] 40 (0,0)):=by rw [hW1]; exact heap_alloc_new w _
    obtain ⟨b0,e0⟩:∃ b0,b0 = w.heap.size:=⟨_,rfl⟩
    rw [<- e0] at x0
    have X0:=jH x0
    clear x0
    go_enter Tryz.func37,Tryz.ntmps37
    go_upto_region 1 with fail
    rw [<- hW1]
    rw [show w.heap.size = b0 from e0.symm]
    clear hW1 e0
    obtain ⟨j0,j1,j2,j3,j4,_⟩:=jb_cells X0.out
    go_wp2_with fail
    clear j0 j1 j2 j3 j4
    refine (prog_1 st so dm ep _).mono ?_
    rintro e w2 ⟨rfl,hb2⟩
    have HB2:=jS HB hb2
    obtain ⟨j0,j1,j2,j3,j4,_⟩:=jb_cells (keep X0.out hb2)
    clear hb2 X0 j0 j2 j3 j4
    go_wp2
    all_goals (go_ret; exact ⟨ret_b (by simp [donB, *]; try omega),HB2.out⟩)
 by_cases h2:k = 2
 ·subst h2
  by_cases g0:st <= s
  ·have hl:=look_still_2 st so dm ep
   obtain ⟨W1,hW1⟩:∃ W1,W1 = w.alloc (.cells #[.int .u8 2,.int .i64 st,.int .i64 so,.int .i64 dm,.int .i64 ep] 40):=⟨_,rfl⟩
   have HB:Hid (Below w.heap.size w W1):=jH (by rw [hW1]; exact (Below.refl _ w).alloc (Nat.le_refl _) _)
   have x0:W1.heap[w.heap.size]? = some (.cells #[.int .u8 2,.int .i64 st,.int .i64 so,.int .i64 dm,.int .i64 ep] 40 (0,0)):=by rw [hW1]; exact heap_alloc_new w _
   obtain ⟨b0,e0⟩:∃ b0,b0 = w.heap.size:=⟨_,rfl⟩
   rw [<- e0] at x0
   have X0:=jH x0
   clear x0
   go_enter Tryz.func37,Tryz.ntmps37
   go_upto_region 1 with fail
   rw [<- hW1]
   rw [show w.heap.size = b0 from e0.symm]
   clear hW1 e0
   obtain ⟨j0,j1,j2,j3,j4,_⟩:=jb_cells X0.out
   go_wp2_with fail
   clear j0 j1 j2 j3 j4
   refine (prog_2 st so dm ep _).mono ?_
   rintro e w2 ⟨rfl,hb2⟩
   have HB2:=jS HB hb2
   obtain ⟨j0,j1,j2,j3,j4,_⟩:=jb_cells (keep X0.out hb2)
   clear hb2 X0 j0 j2 j3 j4
   go_wp2
   all_goals (go_ret; exact ⟨ret_b (by simp [donB, *]; try omega),HB2.out⟩)
  ·by_cases g1:1 <= s
   ·have hl:=look_still_2 st so dm ep
    obtain ⟨W1,hW1⟩:∃ W1,W1 = w.alloc (.cells #[.int .u8 2,.int .i64 st,.int .i64 so,.int .i64 dm,.int .i64 ep] 40):=⟨_,rfl⟩
    have HB:Hid (Below w.heap.size w W1):=jH (by rw [hW1]; exact (Below.refl _ w).alloc (Nat.le_refl _) _)
    have x0:W1.heap[w.heap.size]? = some (.cells #[.int .u8 2,.int .i64 st,.int .i64 so,.int .i64 dm,.int .i64 ep] 40 (0,0)):=by rw [hW1]; exact heap_alloc_new w _
    obtain ⟨b0,e0⟩:∃ b0,b0 = w.heap.size:=⟨_,rfl⟩
    rw [<- e0] at x0
    have X0:=jH x0
    clear x0
    go_enter Tryz.func37,Tryz.ntmps37
    go_upto_region 1 with fail
    rw [<- hW1]
    rw [show w.heap.size = b0 from e0.symm]
    clear hW1 e0
    obtain ⟨j0,j1,j2,j3,j4,_⟩:=jb_cells X0.out
    go_wp2_with fail
    clear j0 j1 j2 j3 j4
    refine (prog_2 st so dm ep _).mono ?_
    rintro e w2 ⟨rfl,hb2⟩
    have HB2:=jS HB hb2
    obtain ⟨j0,j1,j2,j3,j4,_⟩:=jb_cells (keep X0.out hb2)
    clear hb2 X0 j0 j2 j3 j4
    go_wp2_with fail
    refine (still_least _).mono ?_
    rintro e w3 ⟨rfl,hb3⟩
    have HB3:=jS HB2 hb3
    clear hb3 j1
    go_wp2
    all_goals (go_ret; exact ⟨ret_b (by simp [donB, *]; try omega),HB3.out⟩)
   ·have hl:=look_still_2 st so dm ep
    obtain ⟨W1,hW1⟩:∃ W1,W1 = w.alloc (.cells #[.int .u8 2,.int .i64 st,.int .i64 so,.int .i64 dm,.int .i64 ep] 40):=⟨_,rfl⟩
    have HB:Hid (Below w.heap.size w W1):=jH (by rw [hW1]; exact (Below.refl _ w).alloc (Nat.le_refl _) _)
    have x0:W1.heap[w.heap.size]? = some (.cells #[.int .u8 2,.int .i64 st,.int .i64 so,.int .i64 dm,.int .i64 ep] 40 (0,0)):=by rw [hW1]; exact heap_alloc_new w _
    obtain ⟨b0,e0⟩:∃ b0,b0 = w.heap.size:=⟨_,rfl⟩
    rw [<- e0] at x0
    have X0:=jH x0
    clear x0
    go_enter Tryz.func37,Tryz.ntmps37
    go_upto_region 1 with fail
    rw [<- hW1]
    rw [show w.heap.size = b0 from e0.symm]
    clear hW1 e0
    obtain ⟨j0,j1,j2,j3,j4,_⟩:=jb_cells X0.out
    go_wp2_with fail
    clear j0 j1 j2 j3 j4
    refine (prog_2 st so dm ep _).mono ?_
    rintro e w2 ⟨rfl,hb2⟩
    have HB2:=jS HB hb2
    obtain ⟨j0,j1,j2,j3,j4,_⟩:=jb_cells (keep X0.out hb2)
    clear hb2 X0 j0 j2 j3 j4
    go_wp2
    all_goals (go_ret; exact ⟨ret_b (by simp [donB, *]; try omega),HB2.out⟩)
 by_cases h3:k = 3
 ·subst h3
  by_cases g0:st <= s
  ·have hl:=look_still_3 st so dm ep
   obtain ⟨W1,hW1⟩:∃ W1,W1 = w.alloc (.cells #[.int .u8 3,.int .i64 st,.int .i64 so,.int .i64 dm,.int .i64 ep] 40):=⟨_,rfl⟩
   have HB:Hid (Below w.heap.size w W1):=jH (by rw [hW1]; exact (Below.refl _ w).alloc (Nat.le_refl _) _)
   have x0:W1.heap[w.heap.size]? = some (.cells #[.int .u8 3,.int .i64 st,.int .i64 so,.int .i64 dm,.int .i64 ep] 40 (0,0)):=by rw [hW1]; exact heap_alloc_new w _
   obtain ⟨b0,e0⟩:∃ b0,b0 = w.heap.size:=⟨_,rfl⟩
   rw [<- e0] at x0
   have X0:=jH x0
   clear x0
   go_enter Tryz.func37,Tryz.ntmps37
   go_upto_region 1 with fail
   rw [<- hW1]
   rw [show w.heap.size = b0 from e0.symm]
   clear hW1 e0
   obtain ⟨j0,j1,j2,j3,j4,_⟩:=jb_cells X0.out
   go_wp2_with fail
   clear j0 j1 j2 j3 j4
   refine (prog_3 st so dm ep _).mono ?_
   rintro e w2 ⟨rfl,hb2⟩
   have HB2:=jS HB hb2
   obtain ⟨j0,j1,j2,j3,j4,_⟩:=jb_cells (keep X0.out hb2)
   clear hb2 X0 j0 j2 j3 j4
   go_wp2
   all_goals (go_ret; exact ⟨ret_b (by simp [donB, *]; try omega),HB2.out⟩)
  ·by_cases g1:1 <= s
   ·have hl:=look_still_3 st so dm ep
    obtain ⟨W1,hW1⟩:∃ W1,W1 = w.alloc (.cells #[.int .u8 3,.int .i64 st,.int .i64 so,.int .i64 dm,.int .i64 ep] 40):=⟨_,rfl⟩
    have HB:Hid (Below w.heap.size w W1):=jH (by rw [hW1]; exact (Below.refl _ w).alloc (Nat.le_refl _) _)
    have x0:W1.heap[w.heap.size]? = some (.cells #[.int .u8 3,.int .i64 st,.int .i64 so,.int .i64 dm,.int .i64 ep] 40 (0,0)):=by rw [hW1]; exact heap_alloc_new w _
    obtain ⟨b0,e0⟩:∃ b0,b0 = w.heap.size:=⟨_,rfl⟩
    rw [<- e0] at x0
    have X0:=jH x0
    clear x0
    go_enter Tryz.func37,Tryz.ntmps37
    go_upto_region 1 with fail
    rw [<- hW1]
    rw [show w.heap.size = b0 from e0.symm]
    clear hW1 e0
    obtain ⟨j0,j1,j2,j3,j4,_⟩:=jb_cells X0.out
    go_wp2_with fail
    clear j0 j1 j2 j3 j4
    refine (prog_3 st so dm ep _).mono ?_
    rintro e w2 ⟨rfl,hb2⟩
    have HB2:=jS HB hb2
    obtain ⟨j0,j1,j2,j3,j4,_⟩:=jb_cells (keep X0.out hb2)
    clear hb2 X0 j0 j2 j3 j4
    go_wp2_with fail
    refine (still_least _).mono ?_
    rintro e w3 ⟨rfl,hb3⟩
    have HB3:=jS HB2 hb3
    clear hb3 j1
    go_wp2
    all_goals (go_ret; exact ⟨ret_b (by simp [donB, *]; try omega),HB3.out⟩)
   ·have hl:=look_still_3 st so dm ep
    obtain ⟨W1,hW1⟩:∃ W1,W1 = w.alloc (.cells #[.int .u8 3,.int .i64 st,.int .i64 so,.int .i64 dm,.int .i64 ep] 40):=⟨_,rfl⟩
    have HB:Hid (Below w.heap.size w W1):=jH (by rw [hW1]; exact (Below.refl _ w).alloc (Nat.le_refl _) _)
    have x0:W1.heap[w.heap.size]? = some (.cells #[.int .u8 3,.int .i64 st,.int .i64 so,.int .i64 dm,.int .i64 ep] 40 (0,0)):=by rw [hW1]; exact heap_alloc_new w _
    obtain ⟨b0,e0⟩:∃ b0,b0 = w.heap.size:=⟨_,rfl⟩
    rw [<- e0] at x0
    have X0:=jH x0
    clear x0
    go_enter Tryz.func37,Tryz.ntmps37
    go_upto_region 1 with fail
    rw [<- hW1]
    rw [show w.heap.size = b0 from e0.symm]
    clear hW1 e0
    obtain ⟨j0,j1,j2,j3,j4,_⟩:=jb_cells X0.out
    go_wp2_with fail
    clear j0 j1 j2 j3 j4
    refine (prog_3 st so dm ep _).mono ?_
    rintro e w2 ⟨rfl,hb2⟩
    have HB2:=jS HB hb2
    obtain ⟨j0,j1,j2,j3,j4,_⟩:=jb_cells (keep X0.out hb2)
    clear hb2 X0 j0 j2 j3 j4
    go_wp2
    all_goals (go_ret; exact ⟨ret_b (by simp [donB, *]; try omega),HB2.out⟩)
 obtain ⟨W1,hW1⟩:∃ W1,W1 = w.alloc (.cells #[.int .u8 k,.int .i64 st,.int .i64 so,.int .i64 dm,.int .i64 ep] 40):=⟨_,rfl⟩
 have HB:Hid (Below w.heap.size w W1):=jH (by rw [hW1]; exact (Below.refl _ w).alloc (Nat.le_refl _) _)
 have x0:W1.heap[w.heap.size]? = some (.cells #[.int .u8 k,.int .i64 st,.int .i64 so,.int .i64 dm,.int .i64 ep] 40 (0,0)):=by rw [hW1]; exact heap_alloc_new w _
 obtain ⟨b0,e0⟩:∃ b0,b0 = w.heap.size:=⟨_,rfl⟩
 rw [<- e0] at x0
 have X0:=jH x0
 clear x0
 go_enter Tryz.func37,Tryz.ntmps37
 go_upto_region 1 with fail
 rw [<- hW1]
 rw [show w.heap.size = b0 from e0.symm]
 clear hW1 e0
 obtain ⟨j0,j1,j2,j3,j4,_⟩:=jb_cells X0.out
 go_wp2_with fail
 clear j0 j1 j2 j3 j4
 refine (prog_no k st so dm ep h1 h2 h3 _).mono ?_
 rintro e w2 ⟨rfl,hb2⟩
 have HB2:=jS HB hb2
 clear hb2
 go_wp2
 go_ret
 exact ⟨ret_b (by unfold donB; rw [if_neg h1,if_neg (by omega)]),HB2.out⟩
theorem asserts_1 (st so dm ep:Int) (w:World):(Instr.typeAssert (.iface 96 (.agg #[.int .u8 1,.int .i64 st,.int .i64 so,.int .i64 dm,.int .i64 ep])) 65 147 true).run Tryz.prog w = .ok (.tuple #[.iface 96 (.agg #[.int .u8 1,.int .i64 st,.int .i64 so,.int .i64 dm,.int .i64 ep]),.bool true]) w:=run_typeAssert_hasB Tryz.underlying147 (by kernel_rfl) _ _ w
theorem asserts_2 (st so dm ep:Int) (w:World):(Instr.typeAssert (.iface 100 (.agg #[.int .u8 2,.int .i64 st,.int .i64 so,.int .i64 dm,.int .i64 ep])) 65 147 true).run Tryz.prog w = .ok (.tuple #[.nilIface,.bool false]) w:=run_typeAssert_lacksB Tryz.underlying147 (by kernel_rfl) (by kernel_rfl) _ _ w
theorem asserts_3 (st so dm ep:Int) (w:World):(Instr.typeAssert (.iface 101 (.agg #[.int .u8 3,.int .i64 st,.int .i64 so,.int .i64 dm,.int .i64 ep])) 65 147 true).run Tryz.prog w = .ok (.tuple #[.nilIface,.bool false]) w:=run_typeAssert_lacksB Tryz.underlying147 (by kernel_rfl) (by kernel_rfl) _ _ w
set_option maxRecDepth 100000 in
set_option maxHeartbeats 1000000 in
theorem part_any (k st so dm ep a v:Int) (c:Bool) (A:Option Addr) (n cc:Nat) (ha0:-9223372036854775808 <= a) (ha1:a <= 9223372036854775807) (hv0:-9223372036854775808 <= v) (hv1:v <= 9223372036854775807) (w:World):Calls Tryz.prog 81 #[.agg #[.int .u8 k,.int .i64 st,.int .i64 so,.int .i64 dm,.int .i64 ep],.int .i64 a,.int .i64 v,.bool c,.slice A n cc] w fun e w' => e = .returned (.agg #[.int .i64 (prtS k v n),.int .i64 (prtM k a v c)])/\Below w.heap.size w w':=by
 by_cases h1:k = 1
 ·subst h1
  have hl:=look_change_1 st so dm ep
  have hl2:=look_lost_1 st so dm ep
  have has:=asserts_1 st so dm ep
  obtain ⟨W1,hW1⟩:∃ W1,W1 = (w.alloc (.cells #[.int .u8 1,.int .i64 st,.int .i64 so,.int .i64 dm,.int .i64 ep] 40)).alloc (.cells #[.int .i64 0,.int .i64 0] 132):=⟨_,rfl⟩
  have hal:=al2 w (.cells #[.int .u8 1,.int .i64 st,.int .i64 so,.int .i64 dm,.int .i64 ep] 40) (.cells #[.int .i64 0,.int .i64 0] 132)
  rw [<- hW1] at hal
  obtain ⟨b0,e0⟩:∃ b0,b0 = w.heap.size:=⟨_,rfl⟩
  obtain ⟨b1,e1⟩:∃ b1,b1 = w.heap.size + 1:=⟨_,rfl⟩
  obtain ⟨x0,x1,hb⟩:=hal
  rw [<- e0] at x0; rw [<- e1] at x1
  have X0:=jH x0; have X1:=jH x1; have HB:=jH hb
  have HGE:Hid (w.heap.size <= b1):=jH (by omega)
  clear x0 x1 hb
  go_enter Tryz.func81,Tryz.ntmps81
  go_upto_region 1 with fail
  rw [<- hW1]
  rw [show w.heap.size + 1 = b1 from e1.symm,show w.heap.size = b0 from e0.symm]
  clear hW1 e0 e1
  obtain ⟨j0,j1,j2,j3,j4,_⟩:=jb_cells X0.out
  go_wp2_with fail
  clear j0 j1 j2 j3 j4
  refine (prog_1 st so dm ep _).mono ?_
  rintro e w2 ⟨rfl,hb2⟩
  have Y1:=jK X1 hb2; have HB2:=jS HB hb2
  clear hb2 X0 X1
  go_wp2_with fail
  refine (change_ranks 1 st so dm ep a v c _ ha0 ha1 hv0 hv1).mono ?_
  rintro e w3 ⟨rfl,hb3⟩
  have Y3:=jK Y1 hb3; have HB3:=jS HB2 hb3
  clear hb3 Y1 HB2
  obtain ⟨q,hq⟩:∃ q,apt a v = q:=⟨_,rfl⟩
  rw [hq]
  have HQ:=jH hq
  clear hq
  obtain ⟨W4,hW4⟩:∃ W4,W4 = w3.alloc (.cells #[.int .i64 0,.int .i64 q] 132):=⟨_,rfl⟩
  have hb4:Below w3.heap.size w3 W4:=by rw [hW4]; exact (Below.refl _ w3).alloc (Nat.le_refl _) _
  have Z4:Hid (W4.heap[w3.heap.size]? = some (.cells #[.int .i64 0,.int .i64 q] 132 (0,0))):=jH (by rw [hW4]; exact heap_alloc_new w3 _)
  have Y4:=jK Y3 hb4; have HB4:=jS HB3 hb4
  obtain ⟨b4,e4⟩:∃ b4,b4 = w3.heap.size:=⟨_,rfl⟩
  rw [<- e4] at Z4
  have HG4:Hid (w.heap.size <= b4):=jH (by rw [e4]; exact HB3.out.size)
  have HNE:Hid (¬ b1 = b4):=jH (by have:=lt_of_block Y3.out; omega)
  go_upto_region 5 with fail
  rw [<- hW4]
  rw [show w3.heap.size = b4 from e4.symm]
  clear hW4 hb4 e4 Y3 HB3
  obtain ⟨z0,z1,zf⟩:=tot_cells Z4.out
  go_wp2_with fail
  refine (lost_ranks 1 st so dm ep v A n cc _).mono ?_
  rintro e w5 ⟨rfl,hb5⟩
  have Z5:=jK Z4 hb5; have Y5:=jK Y4 hb5; have HB5:=jS HB4 hb5
  clear hb5 Z4 Y4 HB4 z0 z1 zf
  obtain ⟨t,ht⟩:∃ t,(if n = 0 then max v 0 else 0) = t:=⟨_,rfl⟩
  rw [ht]
  have HT:=jH ht
  clear ht
  obtain ⟨z0,z1,zf⟩:=tot_cells Z5.out
  obtain ⟨W6,hW6⟩:∃ W6,W6 = w5.setCell ⟨b4,0,none⟩ (.int .i64 t):=⟨_,rfl⟩
  have Z6:Hid (W6.heap[b4]? = some (.cells #[.int .i64 t,.int .i64 q] 132 (0,0))):=jH (by rw [hW6]; exact heap_setCell_same w5 b4 0 _ _ _ Z5.out)
  have Y6:Hid (W6.heap[b1]? = some (.cells #[.int .i64 0,.int .i64 0] 132 (0,0))):=jH (by rw [hW6]; exact (heap_setCell_other w5 ⟨b4,0,none⟩ b1 _ HNE.out).trans Y5.out)
  have HBZ:Hid (Below w.heap.size w W6):=jH (by rw [hW6]; exact HB5.out.setCell (p:=⟨b4,0,none⟩) HG4.out _)
  go_upto_region 8 with fail
  rw [<- hW6]
  clear hW6 z0 z1 zf
  obtain ⟨z0,z1,zf⟩:=tot_cells Z6.out
  obtain ⟨y0,y1,yf⟩:=tot_cells Y6.out
  go_wp2_with fail
  have hp:=put_tot Y6.out (t) (q)
  obtain ⟨k0,k1,_⟩:=tot_cells hp
  have hB5:Below w.heap.size w ((W6.setCell ⟨b1,0,none⟩ (.int .i64 (t))).setCell ⟨b1,1,none⟩ (.int .i64 (q))):=(HBZ.out.setCell (p:=⟨b1,0,none⟩) HGE.out _).setCell (p:=⟨b1,1,none⟩) HGE.out _
  refine bodyPost_ret (v:=.agg #[.int .i64 (t),.int .i64 (q)]) (by simp [results,Tryz.results81,go_sem,k0,k1]) rfl ⟨?_,hB5⟩
  exact ret_ag (by rw [<- HT.out]; unfold prtS; simp) (by rw [<- HQ.out]; unfold prtM; simp)
 by_cases h2:k = 2
 ·subst h2
  have hl:=look_change_2 st so dm ep
  have has:=asserts_2 st so dm ep
  obtain ⟨W1,hW1⟩:∃ W1,W1 = (w.alloc (.cells #[.int .u8 2,.int .i64 st,.int .i64 so,.int .i64 dm,.int .i64 ep] 40)).alloc (.cells #[.int .i64 0,.int .i64 0] 132):=⟨_,rfl⟩
  have hal:=al2 w (.cells #[.int .u8 2,.int .i64 st,.int .i64 so,.int .i64 dm,.int .i64 ep] 40) (.cells #[.int .i64 0,.int .i64 0] 132)
  rw [<- hW1] at hal
  obtain ⟨b0,e0⟩:∃ b0,b0 = w.heap.size:=⟨_,rfl⟩
  obtain ⟨b1,e1⟩:∃ b1,b1 = w.heap.size + 1:=⟨_,rfl⟩
  obtain ⟨x0,x1,hb⟩:=hal
  rw [<- e0] at x0; rw [<- e1] at x1
  have X0:=jH x0; have X1:=jH x1; have HB:=jH hb
  have HGE:Hid (w.heap.size <= b1):=jH (by omega)
  clear x0 x1 hb
  go_enter Tryz.func81,Tryz.ntmps81
  go_upto_region 1 with fail
  rw [<- hW1]
  rw [show w.heap.size + 1 = b1 from e1.symm,show w.heap.size = b0 from e0.symm]
  clear hW1 e0 e1
  obtain ⟨j0,j1,j2,j3,j4,_⟩:=jb_cells X0.out
  go_wp2_with fail
  clear j0 j1 j2 j3 j4
  refine (prog_2 st so dm ep _).mono ?_
  rintro e w2 ⟨rfl,hb2⟩
  have Y1:=jK X1 hb2; have HB2:=jS HB hb2
  clear hb2 X0 X1
  go_wp2_with fail
  refine (change_least a v c _).mono ?_
  rintro e w3 ⟨rfl,hb3⟩
  have Y3:=jK Y1 hb3; have HB3:=jS HB2 hb3
  clear hb3 Y1 HB2
  obtain ⟨q,hq⟩:∃ q,(if c = true then (1:Int) else 0) = q:=⟨_,rfl⟩
  rw [hq]
  have HQ:=jH hq
  clear hq
  obtain ⟨W4,hW4⟩:∃ W4,W4 = w3.alloc (.cells #[.int .i64 0,.int .i64 q] 132):=⟨_,rfl⟩
  have hb4:Below w3.heap.size w3 W4:=by rw [hW4]; exact (Below.refl _ w3).alloc (Nat.le_refl _) _
  have Z4:Hid (W4.heap[w3.heap.size]? = some (.cells #[.int .i64 0,.int .i64 q] 132 (0,0))):=jH (by rw [hW4]; exact heap_alloc_new w3 _)
  have Y4:=jK Y3 hb4; have HB4:=jS HB3 hb4
  obtain ⟨b4,e4⟩:∃ b4,b4 = w3.heap.size:=⟨_,rfl⟩
  rw [<- e4] at Z4
  have HG4:Hid (w.heap.size <= b4):=jH (by rw [e4]; exact HB3.out.size)
  have HNE:Hid (¬ b1 = b4):=jH (by have:=lt_of_block Y3.out; omega)
  go_upto_region 5 with fail
  rw [<- hW4]
  rw [show w3.heap.size = b4 from e4.symm]
  clear hW4 hb4 e4 Y3 HB3
  obtain ⟨z0,z1,zf⟩:=tot_cells Z4.out
  have HBZ:=HB4
  obtain ⟨y0,y1,yf⟩:=tot_cells Y4.out
  go_wp2_with fail
  have hp:=put_tot Y4.out (0) (q)
  obtain ⟨k0,k1,_⟩:=tot_cells hp
  have hB5:Below w.heap.size w ((W4.setCell ⟨b1,0,none⟩ (.int .i64 (0))).setCell ⟨b1,1,none⟩ (.int .i64 (q))):=(HBZ.out.setCell (p:=⟨b1,0,none⟩) HGE.out _).setCell (p:=⟨b1,1,none⟩) HGE.out _
  refine bodyPost_ret (v:=.agg #[.int .i64 (0),.int .i64 (q)]) (by simp [results,Tryz.results81,go_sem,k0,k1]) rfl ⟨?_,hB5⟩
  exact ret_ag (by unfold prtS; simp) (by rw [<- HQ.out]; unfold prtM; simp)
 by_cases h3:k = 3
 ·subst h3
  have hl:=look_change_3 st so dm ep
  have has:=asserts_3 st so dm ep
  obtain ⟨W1,hW1⟩:∃ W1,W1 = (w.alloc (.cells #[.int .u8 3,.int .i64 st,.int .i64 so,.int .i64 dm,.int .i64 ep] 40)).alloc (.cells #[.int .i64 0,.int .i64 0] 132):=⟨_,rfl⟩
  have hal:=al2 w (.cells #[.int .u8 3,.int .i64 st,.int .i64 so,.int .i64 dm,.int .i64 ep] 40) (.cells #[.int .i64 0,.int .i64 0] 132)
  rw [<- hW1] at hal
  obtain ⟨b0,e0⟩:∃ b0,b0 = w.heap.size:=⟨_,rfl⟩
  obtain ⟨b1,e1⟩:∃ b1,b1 = w.heap.size + 1:=⟨_,rfl⟩
  obtain ⟨x0,x1,hb⟩:=hal
  rw [<- e0] at x0; rw [<- e1] at x1
  have X0:=jH x0; have X1:=jH x1; have HB:=jH hb
  have HGE:Hid (w.heap.size <= b1):=jH (by omega)
  clear x0 x1 hb
  go_enter Tryz.func81,Tryz.ntmps81
  go_upto_region 1 with fail
  rw [<- hW1]
  rw [show w.heap.size + 1 = b1 from e1.symm,show w.heap.size = b0 from e0.symm]
  clear hW1 e0 e1
  obtain ⟨j0,j1,j2,j3,j4,_⟩:=jb_cells X0.out
  go_wp2_with fail
  clear j0 j1 j2 j3 j4
  refine (prog_3 st so dm ep _).mono ?_
  rintro e w2 ⟨rfl,hb2⟩
  have Y1:=jK X1 hb2; have HB2:=jS HB hb2
  clear hb2 X0 X1
  go_wp2_with fail
  refine (change_least a v c _).mono ?_
  rintro e w3 ⟨rfl,hb3⟩
  have Y3:=jK Y1 hb3; have HB3:=jS HB2 hb3
  clear hb3 Y1 HB2
  obtain ⟨q,hq⟩:∃ q,(if c = true then (1:Int) else 0) = q:=⟨_,rfl⟩
  rw [hq]
  have HQ:=jH hq
  clear hq
  obtain ⟨W4,hW4⟩:∃ W4,W4 = w3.alloc (.cells #[.int .i64 0,.int .i64 q] 132):=⟨_,rfl⟩
  have hb4:Below w3.heap.size w3 W4:=by rw [hW4]; exact (Below.refl _ w3).alloc (Nat.le_refl _) _
  have Z4:Hid (W4.heap[w3.heap.size]? = some (.cells #[.int .i64 0,.int .i64 q] 132 (0,0))):=jH (by rw [hW4]; exact heap_alloc_new w3 _)
  have Y4:=jK Y3 hb4; have HB4:=jS HB3 hb4
  obtain ⟨b4,e4⟩:∃ b4,b4 = w3.heap.size:=⟨_,rfl⟩
  rw [<- e4] at Z4
  have HG4:Hid (w.heap.size <= b4):=jH (by rw [e4]; exact HB3.out.size)
  have HNE:Hid (¬ b1 = b4):=jH (by have:=lt_of_block Y3.out; omega)
  go_upto_region 5 with fail
  rw [<- hW4]
  rw [show w3.heap.size = b4 from e4.symm]
  clear hW4 hb4 e4 Y3 HB3
  obtain ⟨z0,z1,zf⟩:=tot_cells Z4.out
  have HBZ:=HB4
  obtain ⟨y0,y1,yf⟩:=tot_cells Y4.out
  go_wp2_with fail
  have hp:=put_tot Y4.out (0) (q)
  obtain ⟨k0,k1,_⟩:=tot_cells hp
  have hB5:Below w.heap.size w ((W4.setCell ⟨b1,0,none⟩ (.int .i64 (0))).setCell ⟨b1,1,none⟩ (.int .i64 (q))):=(HBZ.out.setCell (p:=⟨b1,0,none⟩) HGE.out _).setCell (p:=⟨b1,1,none⟩) HGE.out _
  refine bodyPost_ret (v:=.agg #[.int .i64 (0),.int .i64 (q)]) (by simp [results,Tryz.results81,go_sem,k0,k1]) rfl ⟨?_,hB5⟩
  exact ret_ag (by unfold prtS; simp) (by rw [<- HQ.out]; unfold prtM; simp)
 obtain ⟨W1,hW1⟩:∃ W1,W1 = (w.alloc (.cells #[.int .u8 k,.int .i64 st,.int .i64 so,.int .i64 dm,.int .i64 ep] 40)).alloc (.cells #[.int .i64 0,.int .i64 0] 132):=⟨_,rfl⟩
 have hal:=al2 w (.cells #[.int .u8 k,.int .i64 st,.int .i64 so,.int .i64 dm,.int .i64 ep] 40) (.cells #[.int .i64 0,.int .i64 0] 132)
 rw [<- hW1] at hal
 obtain ⟨b0,e0⟩:∃ b0,b0 = w.heap.size:=⟨_,rfl⟩
 obtain ⟨b1,e1⟩:∃ b1,b1 = w.heap.size + 1:=⟨_,rfl⟩
 obtain ⟨x0,x1,hb⟩:=hal
 rw [<- e0] at x0; rw [<- e1] at x1
 have X0:=jH x0; have X1:=jH x1; have HB:=jH hb
 have HGE:Hid (w.heap.size <= b1):=jH (by omega)
 clear x0 x1 hb
 go_enter Tryz.func81,Tryz.ntmps81
 go_upto_region 1 with fail
 rw [<- hW1]
 rw [show w.heap.size + 1 = b1 from e1.symm,show w.heap.size = b0 from e0.symm]
 clear hW1 e0 e1
 obtain ⟨j0,j1,j2,j3,j4,_⟩:=jb_cells X0.out
 go_wp2_with fail
 clear j0 j1 j2 j3 j4
 refine (prog_no k st so dm ep h1 h2 h3 _).mono ?_
 rintro e W4 ⟨rfl,hb2⟩
 have Y4:=jK X1 hb2; have HBZ:=jS HB hb2
 clear hb2 X0 X1
 obtain ⟨y0,y1,yf⟩:=tot_cells Y4.out
 go_wp2_with fail
 have hp:=put_tot Y4.out (0) (0)
 obtain ⟨k0,k1,_⟩:=tot_cells hp
 have hB5:Below w.heap.size w ((W4.setCell ⟨b1,0,none⟩ (.int .i64 (0))).setCell ⟨b1,1,none⟩ (.int .i64 (0))):=(HBZ.out.setCell (p:=⟨b1,0,none⟩) HGE.out _).setCell (p:=⟨b1,1,none⟩) HGE.out _
 refine bodyPost_ret (v:=.agg #[.int .i64 (0),.int .i64 (0)]) (by simp [results,Tryz.results81,go_sem,k0,k1]) rfl ⟨?_,hB5⟩
 exact ret_ag (by unfold prtS; rw [if_neg h1]) (by unfold prtM; rw [if_neg h1,if_neg (by omega)])
end Go.Proofs.YtdcaekmgfcpbmaaGreat.Al
