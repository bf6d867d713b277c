/-
  What is proved here: contracts of algos.Start, Compute, Done, Check, Part, Join of the document. Conditions: numbers fit an int. What is proved here: contracts of algos.Compute, Part, Join of the document. Conditions: numbers fit an int. What is proved here: contracts of algos.Join, Check of the document, and plain. Conditions: numbers fit an int.
-/
import Derived.Test.YtdcaekmgfcpbmaaGreatQdAlP5
import Derived.Stop.Asserts
import Derived.Laws.StructEq
import Derived.Test.YtdcaekmgfcpbmaaGreatQdTlPrex
namespace Go.Proofs.YtdcaekmgfcpbmaaGreat.Al
open Go.RowKit Gr Wd Ws Fx Rk Lb
set_option maxRecDepth 100000 in
theorem rstart_any (k st so dm ep V v:Int) (hV0:-9223372036854775808 <= V) (hV1:V <= 9223372036854775807) (hv0:-9223372036854775808 <= v) (hv1:v <= 9223372036854775807) (w:World):Calls Tryz.prog 92 #[.agg #[.int .u8 k,.int .i64 st,.int .i64 so,.int .i64 dm,.int .i64 ep],.int .i64 V,.int .i64 v] w fun e w' => e = .returned (.tuple #[.int .i64 (sttM k V v so),.bool (sttB k v so)])/\Below w.heap.size w w':=by
 have HB1:=fun (k:Int) => jH ((Below.refl _ w).alloc (Nat.le_refl _) (.cells #[.int .u8 k,.int .i64 st,.int .i64 so,.int .i64 dm,.int .i64 ep] 40))
 by_cases h1:k = 1
 ·subst h1
  obtain ⟨g,hg⟩:∃ g,giveI 4294967296 V = g:=⟨_,rfl⟩
  have HG:=jH hg
  clear hg
  go_enter Tryz.func92,Tryz.ntmps92
  go_wp2_with fail
  refine (Rk.rstart_any V g _ HG hV0 hV1).mono ?_
  rintro e w2 ⟨rfl,rfl⟩
  go_wp2
  go_ret2
  exact ⟨ret_tb (by rw [<- HG.out]; unfold sttM; simp) (by unfold sttB; simp),(HB1 1).out⟩
 have b1:(k == 1) = false:=by simp [h1]
 by_cases h2:k = 2
 ·subst h2
  have hw:IntKind.i64.wrap v = v:=by rw [IntKind.wrap_i64]; omega
  go_enter Tryz.func92,Tryz.ntmps92
  go_wp2
  go_ret2
  exact ⟨ret_tb (by unfold sttM; simp) (by unfold sttB; simp),(HB1 2).out⟩
 have b2:(k == 2) = false:=by simp [h2]
 by_cases h3:k = 3
 ·subst h3
  obtain ⟨W1,hW1⟩:∃ W1,W1 = w.alloc (.cells #[.int .u8 3,.int .i64 st,.int .i64 so,.int .i64 dm,.int .i64 ep] 40):=⟨_,rfl⟩
  have HB:Hid (Below w.heap.size w W1):=jH (by rw [hW1]; exact (HB1 3).out)
  have x0:W1.heap[w.heap.size]? = some (.cells #[.int .u8 3,.int .i64 st,.int .i64 so,.int .i64 dm,.int .i64 ep] 40 (0,0)):=by rw [hW1]; exact heap_alloc_new w _
  obtain ⟨b0,e0⟩:∃ b0,b0 = w.heap.size:=⟨_,rfl⟩
  rw [<- e0] at x0
  obtain ⟨j0,j1,j2,j3,j4,_⟩:=jb_cells x0
  have q2:=cell_regrown j2
  have C1:=jH (regr fun W (_:Below W1.heap.size W1 W) => ((Pa.rstart_any v so W).mono fun _ _ k => ⟨k.1,k.2 ▸ Below.refl _ _⟩:Calls Tryz.prog 100 #[.int .i64 v,.int .i64 so] W fun e w' => e = .returned (.int .i64 (Pa.stt v so))/\Below W.heap.size W w'))
  have mixed:=mixedO
  clear x0 j1 j2 j3 j4
  go_enter Tryz.func92,Tryz.ntmps92
  go_upto_region 1 with fail
  rw [<- hW1]
  rw [show w.heap.size = b0 from e0.symm]
  clear hW1 e0
  go_wp2_with fail
  refine wp_region_quiet_below mixed (by kernel_rfl) ?_
  repeat (go_big_quiet_step ((with_reducible exact C1.out _ _)))
  refine wpQuiet_nil ?_
  intro _ hw'
  obtain ⟨⟨dq,osq⟩,hw''⟩:=hw'
  subst hw''
  have HB2:=jH (step_below HB.out HB.out.size (below_regrown W1 dq osq))
  go_wp2
  go_ret2
  exact ⟨ret_tb (by unfold sttM; simp) (by unfold sttB; by_cases h:v = so <;> simp [h]),HB2.out⟩
 have b3:(k == 3) = false:=by simp [h3]
 go_enter Tryz.func92,Tryz.ntmps92
 go_wp2
 go_ret2
 exact ⟨ret_tb (by unfold sttM; rw [if_neg h1,if_neg h2,if_neg h3]) (by unfold sttB; rw [if_neg h1,if_neg h2,if_neg h3]),(HB1 k).out⟩
set_option maxRecDepth 100000 in
theorem rdone_any (k st so dm ep s m:Int) (w:World):Calls Tryz.prog 86 #[.agg #[.int .u8 k,.int .i64 st,.int .i64 so,.int .i64 dm,.int .i64 ep],.int .i64 s,.int .i64 m] w fun e w' => e = .returned (.bool (donB k st ep s m))/\Below w.heap.size w w':=by
 have HB1:=fun (k:Int) => jH ((Below.refl _ w).alloc (Nat.le_refl _) (.cells #[.int .u8 k,.int .i64 st,.int .i64 so,.int .i64 dm,.int .i64 ep] 40))
 by_cases h1:k = 1
 ·subst h1
  by_cases g0:st <= s
  ·go_enter Tryz.func86,Tryz.ntmps86
   go_wp2
   all_goals (go_ret; exact ⟨ret_b (by simp [donB, *]; try omega),(HB1 _).out⟩)
  ·by_cases g1:1 <= s
   ·by_cases g2:m <= ep
    ·go_enter Tryz.func86,Tryz.ntmps86
     go_wp2
     all_goals (go_ret; exact ⟨ret_b (by simp [donB, *]; try omega),(HB1 _).out⟩)
    ·go_enter Tryz.func86,Tryz.ntmps86
     go_wp2
     all_goals (go_ret; exact ⟨ret_b (by simp [donB, *]; try omega),(HB1 _).out⟩)
   ·go_enter Tryz.func86,Tryz.ntmps86
    go_wp2
    all_goals (go_ret; exact ⟨ret_b (by simp [donB, *]; try omega),(HB1 _).out⟩)
 have b1:(k == 1) = false:=by simp [h1]
 by_cases h2:k = 2
 ·subst h2
  by_cases g0:st <= s
  ·go_enter Tryz.func86,Tryz.ntmps86
   go_wp2
   all_goals (go_ret; exact ⟨ret_b (by simp [donB, *]; try omega),(HB1 _).out⟩)
  ·by_cases g1:1 <= s
   ·by_cases g2:m <= 0
    ·go_enter Tryz.func86,Tryz.ntmps86
     go_wp2
     all_goals (go_ret; exact ⟨ret_b (by simp [donB, *]; try omega),(HB1 _).out⟩)
    ·go_enter Tryz.func86,Tryz.ntmps86
     go_wp2
     all_goals (go_ret; exact ⟨ret_b (by simp [donB, *]; try omega),(HB1 _).out⟩)
   ·go_enter Tryz.func86,Tryz.ntmps86
    go_wp2
    all_goals (go_ret; exact ⟨ret_b (by simp [donB, *]; try omega),(HB1 _).out⟩)
 have b2:(k == 2) = false:=by simp [h2]
 by_cases h3:k = 3
 ·subst h3
  by_cases g0:st <= s
  ·go_enter Tryz.func86,Tryz.ntmps86
   go_wp2
   all_goals (go_ret; exact ⟨ret_b (by simp [donB, *]; try omega),(HB1 _).out⟩)
  ·by_cases g1:1 <= s
   ·by_cases g2:m <= 0
    ·go_enter Tryz.func86,Tryz.ntmps86
     go_wp2
     all_goals (go_ret; exact ⟨ret_b (by simp [donB, *]; try omega),(HB1 _).out⟩)
    ·go_enter Tryz.func86,Tryz.ntmps86
     go_wp2
     all_goals (go_ret; exact ⟨ret_b (by simp [donB, *]; try omega),(HB1 _).out⟩)
   ·go_enter Tryz.func86,Tryz.ntmps86
    go_wp2
    all_goals (go_ret; exact ⟨ret_b (by simp [donB, *]; try omega),(HB1 _).out⟩)
 have b3:(k == 3) = false:=by simp [h3]
 go_enter Tryz.func86,Tryz.ntmps86
 go_wp2
 go_ret
 exact ⟨ret_b (by unfold donB; rw [if_neg h1,if_neg (by omega)]),(HB1 k).out⟩
open Go.RowKit Gr Wd Ws Fx Rk Lb
theorem rtaker_q (V d m s g:Int) (hg:Hid (takeI V d m s = g)) (hV0:-9223372036854775808 <= V) (hV1:V <= 9223372036854775807) (hd0:-9223372036854775808 <= d) (hd1:d <= 9223372036854775807) (hm0:-9223372036854775808 <= m) (hm1:m <= 9223372036854775807) (hs0:-9223372036854775808 <= s) (hs1:s <= 9223372036854775807) (w:World):Calls Tryz.prog 106 #[.int .i64 V,.int .i64 d,.int .i64 m,.int .i64 s] w fun e w' => e = .returned (.int .i64 g)/\Below w.heap.size w w' :=
 (Rk.rtake_any V d m s g w hg hV0 hV1 hd0 hd1 hm0 hm1 hs0 hs1).mono fun _ _ k => ⟨k.1,k.2.out⟩
set_option maxRecDepth 100000 in
set_option maxHeartbeats 1000000 in
theorem rcompute_any (k st so dm ep V x m s:Int) (h:Bool) (hV0:-9223372036854775808 <= V) (hV1:V <= 9223372036854775807) (hdm0:-9223372036854775808 <= dm) (hdm1:dm <= 9223372036854775807) (_hm0:-9223372036854775808 <= m) (hm1:m <= 9223372036854775807) (hs0:-9223372036854775808 <= s) (hs1:s <= 9223372036854775807) (w:World):Calls Tryz.prog 94 #[.agg #[.int .u8 k,.int .i64 st,.int .i64 so,.int .i64 dm,.int .i64 ep],.int .i64 V,.int .i64 x,.agg #[.bool h,.int .i64 m],.int .i64 s] w fun e w' => e = .returned (.tuple #[.int .i64 (cmpM k V dm x h m s),.bool (cmpB k V dm x h m s)])/\Below w.heap.size w w':=by
 by_cases h1:k = 1
 ·subst h1
  cases h with
  | false =>
   obtain ⟨r,hr⟩:∃ r,takeI V dm (gotI false m) s = r:=⟨_,rfl⟩
   have HR:=jH hr
   have HC:=jH (fun W => rtaker_q V dm 0 s r (jH (by rw [<- hr]; rfl)) hV0 hV1 hdm0 hdm1 (by decide) (by decide) hs0 hs1 W)
   clear hr
   obtain ⟨W1,hW1⟩:∃ W1,W1 = (w.alloc (.cells #[.int .u8 1,.int .i64 st,.int .i64 so,.int .i64 dm,.int .i64 ep] 40)).alloc (.cells #[.bool false,.int .i64 m] 114):=⟨_,rfl⟩
   have hal:=al2 w (.cells #[.int .u8 1,.int .i64 st,.int .i64 so,.int .i64 dm,.int .i64 ep] 40) (.cells #[.bool false,.int .i64 m] 114)
   rw [<- hW1] at hal
   obtain ⟨b0,e0⟩:∃ b0,b0 = w.heap.size:=⟨_,rfl⟩
   obtain ⟨b1,e1⟩:∃ b1,b1 = w.heap.size + 1:=⟨_,rfl⟩
   obtain ⟨x0,x1,hb⟩:=hal
   rw [<- e0] at x0; rw [<- e1] at x1
   have X0:=jH x0; have X1:=jH x1; have HB:=jH hb
   clear x0 x1 hb
   go_enter Tryz.func94,Tryz.ntmps94
   go_upto_region 1 with fail
   rw [<- hW1]
   rw [show w.heap.size + 1 = b1 from e1.symm,show w.heap.size = b0 from e0.symm]
   clear hW1 e0 e1
   obtain ⟨j0,j1,j2,j3,j4,_⟩:=jb_cells X0.out
   have m0:W1.cell? ⟨b1,0,none⟩ = some (.bool false):=by rw [Lib.cell_of_heap X1.out]; rfl
   have m1:W1.cell? ⟨b1,1,none⟩ = some (.int .i64 m):=by rw [Lib.cell_of_heap X1.out]; rfl
   go_wp2_with fail
   refine (HC.out _).mono ?_
   rintro e w3 ⟨rfl,hb3⟩
   have HB3:=jS HB hb3
   clear hb3 m0 m1 j0 j1 j2 j3 j4
   go_wp2
   go_ret2
   exact ⟨ret_tb (by rw [<- HR.out]; unfold cmpM; simp) (by unfold cmpB; rw [if_pos rfl,HR.out]; by_cases g:r = x <;> simp [g,bne]),HB3.out⟩
  | true =>
   obtain ⟨r,hr⟩:∃ r,takeI V dm (gotI true m) s = r:=⟨_,rfl⟩
   have HR:=jH hr
   have HC:=jH (fun W => rtaker_q V dm (max m 0) s r (jH (by rw [<- hr]; rfl)) hV0 hV1 hdm0 hdm1 (by omega) (by omega) hs0 hs1 W)
   clear hr
   obtain ⟨W1,hW1⟩:∃ W1,W1 = (w.alloc (.cells #[.int .u8 1,.int .i64 st,.int .i64 so,.int .i64 dm,.int .i64 ep] 40)).alloc (.cells #[.bool true,.int .i64 m] 114):=⟨_,rfl⟩
   have hal:=al2 w (.cells #[.int .u8 1,.int .i64 st,.int .i64 so,.int .i64 dm,.int .i64 ep] 40) (.cells #[.bool true,.int .i64 m] 114)
   rw [<- hW1] at hal
   obtain ⟨b0,e0⟩:∃ b0,b0 = w.heap.size:=⟨_,rfl⟩
   obtain ⟨b1,e1⟩:∃ b1,b1 = w.heap.size + 1:=⟨_,rfl⟩
   obtain ⟨x0,x1,hb⟩:=hal
   rw [<- e0] at x0; rw [<- e1] at x1
   have X0:=jH x0; have X1:=jH x1; have HB:=jH hb
   clear x0 x1 hb
   go_enter Tryz.func94,Tryz.ntmps94
   go_upto_region 1 with fail
   rw [<- hW1]
   rw [show w.heap.size + 1 = b1 from e1.symm,show w.heap.size = b0 from e0.symm]
   clear hW1 e0 e1
   obtain ⟨j0,j1,j2,j3,j4,_⟩:=jb_cells X0.out
   have m0:W1.cell? ⟨b1,0,none⟩ = some (.bool true):=by rw [Lib.cell_of_heap X1.out]; rfl
   have m1:W1.cell? ⟨b1,1,none⟩ = some (.int .i64 m):=by rw [Lib.cell_of_heap X1.out]; rfl
   go_wp2_with fail
   refine (HC.out _).mono ?_
   rintro e w3 ⟨rfl,hb3⟩
   have HB3:=jS HB hb3
   clear hb3 m0 m1 j0 j1 j2 j3 j4
   go_wp2
   go_ret2
   exact ⟨ret_tb (by rw [<- HR.out]; unfold cmpM; simp) (by unfold cmpB; rw [if_pos rfl,HR.out]; by_cases g:r = x <;> simp [g,bne]),HB3.out⟩
 have g1:(k == 1) = false:=by simp [h1]
 by_cases h2:k = 2
 ·subst h2
  obtain ⟨W1,hW1⟩:∃ W1,W1 = (w.alloc (.cells #[.int .u8 2,.int .i64 st,.int .i64 so,.int .i64 dm,.int .i64 ep] 40)).alloc (.cells #[.bool h,.int .i64 m] 114):=⟨_,rfl⟩
  have hal:=al2 w (.cells #[.int .u8 2,.int .i64 st,.int .i64 so,.int .i64 dm,.int .i64 ep] 40) (.cells #[.bool h,.int .i64 m] 114)
  rw [<- hW1] at hal
  obtain ⟨b0,e0⟩:∃ b0,b0 = w.heap.size:=⟨_,rfl⟩
  obtain ⟨b1,e1⟩:∃ b1,b1 = w.heap.size + 1:=⟨_,rfl⟩
  obtain ⟨x0,x1,hb⟩:=hal
  rw [<- e0] at x0; rw [<- e1] at x1
  have X0:=jH x0; have X1:=jH x1; have HB:=jH hb
  clear x0 x1 hb
  go_enter Tryz.func94,Tryz.ntmps94
  go_upto_region 1 with fail
  rw [<- hW1]
  rw [show w.heap.size + 1 = b1 from e1.symm,show w.heap.size = b0 from e0.symm]
  clear hW1 e0 e1
  obtain ⟨j0,j1,j2,j3,j4,_⟩:=jb_cells X0.out
  have m0:W1.cell? ⟨b1,0,none⟩ = some (.bool h):=by rw [Lib.cell_of_heap X1.out]; rfl
  have m1:W1.cell? ⟨b1,1,none⟩ = some (.int .i64 m):=by rw [Lib.cell_of_heap X1.out]; rfl
  go_wp2_with fail
  refine (Lb.rtake_any x m h _).mono ?_
  rintro e w3 ⟨rfl,hb3⟩
  have HB3:=jS HB hb3
  clear hb3 m0 m1 j0 j1 j2 j3 j4
  go_wp2
  go_ret2
  exact ⟨ret_tb (by unfold cmpM; simp) (by unfold cmpB; simp),HB3.out⟩
 have g2:(k == 2) = false:=by simp [h2]
 by_cases h3:k = 3
 ·subst h3
  obtain ⟨W1,hW1⟩:∃ W1,W1 = (w.alloc (.cells #[.int .u8 3,.int .i64 st,.int .i64 so,.int .i64 dm,.int .i64 ep] 40)).alloc (.cells #[.bool h,.int .i64 m] 114):=⟨_,rfl⟩
  have hal:=al2 w (.cells #[.int .u8 3,.int .i64 st,.int .i64 so,.int .i64 dm,.int .i64 ep] 40) (.cells #[.bool h,.int .i64 m] 114)
  rw [<- hW1] at hal
  obtain ⟨b0,e0⟩:∃ b0,b0 = w.heap.size:=⟨_,rfl⟩
  obtain ⟨b1,e1⟩:∃ b1,b1 = w.heap.size + 1:=⟨_,rfl⟩
  obtain ⟨x0,x1,hb⟩:=hal
  rw [<- e0] at x0; rw [<- e1] at x1
  have X0:=jH x0; have X1:=jH x1; have HB:=jH hb
  clear x0 x1 hb
  go_enter Tryz.func94,Tryz.ntmps94
  go_upto_region 1 with fail
  rw [<- hW1]
  rw [show w.heap.size + 1 = b1 from e1.symm,show w.heap.size = b0 from e0.symm]
  clear hW1 e0 e1
  obtain ⟨j0,j1,j2,j3,j4,_⟩:=jb_cells X0.out
  have m0:W1.cell? ⟨b1,0,none⟩ = some (.bool h):=by rw [Lib.cell_of_heap X1.out]; rfl
  have m1:W1.cell? ⟨b1,1,none⟩ = some (.int .i64 m):=by rw [Lib.cell_of_heap X1.out]; rfl
  go_wp2_with fail
  refine (Pa.rtake_any x m h _).mono ?_
  rintro e w3 ⟨rfl,hb3⟩
  have HB3:=jS HB hb3
  clear hb3 m0 m1 j0 j1 j2 j3 j4
  go_wp2
  go_ret2
  exact ⟨ret_tb (by unfold cmpM; simp) (by unfold cmpB; simp),HB3.out⟩
 have g3:(k == 3) = false:=by simp [h3]
 obtain ⟨W1,hW1⟩:∃ W1,W1 = (w.alloc (.cells #[.int .u8 k,.int .i64 st,.int .i64 so,.int .i64 dm,.int .i64 ep] 40)).alloc (.cells #[.bool h,.int .i64 m] 114):=⟨_,rfl⟩
 have hal:=al2 w (.cells #[.int .u8 k,.int .i64 st,.int .i64 so,.int .i64 dm,.int .i64 ep] 40) (.cells #[.bool h,.int .i64 m] 114)
 rw [<- hW1] at hal
 obtain ⟨b0,e0⟩:∃ b0,b0 = w.heap.size:=⟨_,rfl⟩
 obtain ⟨b1,e1⟩:∃ b1,b1 = w.heap.size + 1:=⟨_,rfl⟩
 obtain ⟨x0,x1,hb⟩:=hal
 rw [<- e0] at x0; rw [<- e1] at x1
 have X0:=jH x0; have X1:=jH x1; have HB:=jH hb
 clear x0 x1 hb
 go_enter Tryz.func94,Tryz.ntmps94
 go_upto_region 1 with fail
 rw [<- hW1]
 rw [show w.heap.size + 1 = b1 from e1.symm,show w.heap.size = b0 from e0.symm]
 clear hW1 e0 e1
 obtain ⟨j0,j1,j2,j3,j4,_⟩:=jb_cells X0.out
 go_wp2
 go_ret2
 exact ⟨ret_tb (by unfold cmpM; rw [if_neg h1,if_neg h2,if_neg h3]) (by unfold cmpB; rw [if_neg h1,if_neg h2,if_neg h3]),HB.out⟩
theorem rapart_q (a b:Int) (w:World) (ha0:-9223372036854775808 <= a) (ha1:a <= 9223372036854775807) (hb0:-9223372036854775808 <= b) (hb1:b <= 9223372036854775807):Calls Tryz.prog 116 #[.int .i64 a,.int .i64 b] w fun e w' => e = .returned (.int .i64 (apt a b))/\w = w':=Fx.rapart_any a b w ha0 ha1 hb0 hb1
set_option maxRecDepth 100000 in
set_option maxHeartbeats 1000000 in
theorem rpart_any (k st so dm ep a v:Int) (c:Bool) (A:Option Addr) (n cc:Nat) (ha0:-9223372036854775808 <= a) (ha1:a <= 9223372036854775807) (hv0:-9223372036854775808 <= v) (hv1:v <= 9223372036854775807) (w:World):Calls Tryz.prog 104 #[.agg #[.int .u8 k,.int .i64 st,.int .i64 so,.int .i64 dm,.int .i64 ep],.int .i64 a,.int .i64 v,.bool c,.slice A n cc] w fun e w' => e = .returned (.agg #[.int .i64 (prtS k v n),.int .i64 (prtM k a v c)])/\Below w.heap.size w w':=by
 by_cases h1:k = 1
 ·subst h1
  by_cases hn:0 < n
  ·obtain ⟨W1,hW1⟩:∃ W1,W1 = (w.alloc (.cells #[.int .u8 1,.int .i64 st,.int .i64 so,.int .i64 dm,.int .i64 ep] 40)).alloc (.cells #[.int .i64 0,.int .i64 0] 159):=⟨_,rfl⟩
   have hal:=al2 w (.cells #[.int .u8 1,.int .i64 st,.int .i64 so,.int .i64 dm,.int .i64 ep] 40) (.cells #[.int .i64 0,.int .i64 0] 159)
   rw [<- hW1] at hal
   obtain ⟨b0,e0⟩:∃ b0,b0 = w.heap.size:=⟨_,rfl⟩
   obtain ⟨b1,e1⟩:∃ b1,b1 = w.heap.size + 1:=⟨_,rfl⟩
   obtain ⟨x0,x1,hb⟩:=hal
   rw [<- e0] at x0; rw [<- e1] at x1
   have X0:=jH x0; have X1:=jH x1; have HB:=jH hb
   have HGE:Hid (w.heap.size <= b1):=jH (by omega)
   clear x0 x1 hb
   go_enter Tryz.func104,Tryz.ntmps104
   go_upto_region 1 with fail
   rw [<- hW1]
   rw [show w.heap.size + 1 = b1 from e1.symm,show w.heap.size = b0 from e0.symm]
   clear hW1 e0 e1
   obtain ⟨j0,j1,j2,j3,j4,_⟩:=jb_cells X0.out
   go_wp2_with fail
   refine (rapart_q a v _ ha0 ha1 hv0 hv1).mono ?_
   rintro e w3 ⟨rfl,rfl⟩
   obtain ⟨q,hq⟩:∃ q,apt a v = q:=⟨_,rfl⟩
   rw [hq]
   have HQ:=jH hq
   obtain ⟨W4,hW4⟩:∃ W4,W4 = W1.alloc (.cells #[.int .i64 0,.int .i64 q] 159):=⟨_,rfl⟩
   have hb4:Below W1.heap.size W1 W4:=by rw [hW4]; exact (Below.refl _ W1).alloc (Nat.le_refl _) _
   have Z4:Hid (W4.heap[W1.heap.size]? = some (.cells #[.int .i64 0,.int .i64 q] 159 (0,0))):=jH (by rw [hW4]; exact heap_alloc_new W1 _)
   have Y4:=jK X1 hb4; have HB4:=jS HB hb4
   obtain ⟨b4,e4⟩:∃ b4,b4 = W1.heap.size:=⟨_,rfl⟩
   rw [<- e4] at Z4
   have HG4:Hid (w.heap.size <= b4):=jH (by rw [e4]; exact HB.out.size)
   have HNE:Hid (¬ b1 = b4):=jH (by have:=lt_of_block X1.out; omega)
   go_upto_region 4 with fail
   rw [<- hW4]
   rw [show W1.heap.size = b4 from e4.symm]
   clear hW4 hb4 e4 hq j0 j1 j2 j3 j4
   obtain ⟨z0,z1,zf⟩:=tot_cells Z4.out
   obtain ⟨y0,y1,yf⟩:=tot_cells Y4.out
   go_wp2_with fail
   have hp:=put_tot Y4.out (0) (q)
   obtain ⟨k0,k1,_⟩:=tot_cells hp
   have hB5:Below w.heap.size w ((W4.setCell ⟨b1,0,none⟩ (.int .i64 (0))).setCell ⟨b1,1,none⟩ (.int .i64 (q))):=(HB4.out.setCell (p:=⟨b1,0,none⟩) HGE.out _).setCell (p:=⟨b1,1,none⟩) HGE.out _
   refine bodyPost_ret (v:=.agg #[.int .i64 (0),.int .i64 (q)]) (by simp [results,Tryz.results104,go_sem,k0,k1]) rfl ⟨?_,hB5⟩
   exact ret_ag (by unfold prtS; rw [if_pos rfl,if_neg (by omega)]) (by rw [<- HQ.out]; unfold prtM; simp)
  ·have hn0:n = 0:=by omega
   subst hn0
   obtain ⟨W1,hW1⟩:∃ W1,W1 = (w.alloc (.cells #[.int .u8 1,.int .i64 st,.int .i64 so,.int .i64 dm,.int .i64 ep] 40)).alloc (.cells #[.int .i64 0,.int .i64 0] 159):=⟨_,rfl⟩
   have hal:=al2 w (.cells #[.int .u8 1,.int .i64 st,.int .i64 so,.int .i64 dm,.int .i64 ep] 40) (.cells #[.int .i64 0,.int .i64 0] 159)
   rw [<- hW1] at hal
   obtain ⟨b0,e0⟩:∃ b0,b0 = w.heap.size:=⟨_,rfl⟩
   obtain ⟨b1,e1⟩:∃ b1,b1 = w.heap.size + 1:=⟨_,rfl⟩
   obtain ⟨x0,x1,hb⟩:=hal
   rw [<- e0] at x0; rw [<- e1] at x1
   have X0:=jH x0; have X1:=jH x1; have HB:=jH hb
   have HGE:Hid (w.heap.size <= b1):=jH (by omega)
   clear x0 x1 hb
   go_enter Tryz.func104,Tryz.ntmps104
   go_upto_region 1 with fail
   rw [<- hW1]
   rw [show w.heap.size + 1 = b1 from e1.symm,show w.heap.size = b0 from e0.symm]
   clear hW1 e0 e1
   obtain ⟨j0,j1,j2,j3,j4,_⟩:=jb_cells X0.out
   go_wp2_with fail
   refine (rapart_q a v _ ha0 ha1 hv0 hv1).mono ?_
   rintro e w3 ⟨rfl,rfl⟩
   obtain ⟨q,hq⟩:∃ q,apt a v = q:=⟨_,rfl⟩
   rw [hq]
   have HQ:=jH hq
   obtain ⟨W4,hW4⟩:∃ W4,W4 = W1.alloc (.cells #[.int .i64 0,.int .i64 q] 159):=⟨_,rfl⟩
   have hb4:Below W1.heap.size W1 W4:=by rw [hW4]; exact (Below.refl _ W1).alloc (Nat.le_refl _) _
   have Z4:Hid (W4.heap[W1.heap.size]? = some (.cells #[.int .i64 0,.int .i64 q] 159 (0,0))):=jH (by rw [hW4]; exact heap_alloc_new W1 _)
   have Y4:=jK X1 hb4; have HB4:=jS HB hb4
   obtain ⟨b4,e4⟩:∃ b4,b4 = W1.heap.size:=⟨_,rfl⟩
   rw [<- e4] at Z4
   have HG4:Hid (w.heap.size <= b4):=jH (by rw [e4]; exact HB.out.size)
   have HNE:Hid (¬ b1 = b4):=jH (by have:=lt_of_block X1.out; omega)
   go_upto_region 4 with fail
   rw [<- hW4]
   rw [show W1.heap.size = b4 from e4.symm]
   clear hW4 hb4 e4 hq j0 j1 j2 j3 j4
   obtain ⟨z0,z1,zf⟩:=tot_cells Z4.out
   obtain ⟨W6,hW6⟩:∃ W6,W6 = W4.setCell ⟨b4,0,none⟩ (.int .i64 (max v 0)):=⟨_,rfl⟩
   have Z6:Hid (W6.heap[b4]? = some (.cells #[.int .i64 (max v 0),.int .i64 q] 159 (0,0))):=jH (by rw [hW6]; exact heap_setCell_same W4 b4 0 _ _ _ Z4.out)
   have Y6:Hid (W6.heap[b1]? = some (.cells #[.int .i64 0,.int .i64 0] 159 (0,0))):=jH (by rw [hW6]; exact (heap_setCell_other W4 ⟨b4,0,none⟩ b1 _ HNE.out).trans Y4.out)
   have HBZ:Hid (Below w.heap.size w W6):=jH (by rw [hW6]; exact HB4.out.setCell (p:=⟨b4,0,none⟩) HG4.out _)
   go_upto_region 6 with fail
   rw [<- hW6]
   clear hW6 z0 z1 zf
   obtain ⟨z0,z1,zf⟩:=tot_cells Z6.out
   obtain ⟨y0,y1,yf⟩:=tot_cells Y6.out
   go_wp2_with fail
   have hp:=put_tot Y6.out (max v 0) (q)
   obtain ⟨k0,k1,_⟩:=tot_cells hp
   have hB5:Below w.heap.size w ((W6.setCell ⟨b1,0,none⟩ (.int .i64 (max v 0))).setCell ⟨b1,1,none⟩ (.int .i64 (q))):=(HBZ.out.setCell (p:=⟨b1,0,none⟩) HGE.out _).setCell (p:=⟨b1,1,none⟩) HGE.out _
   refine bodyPost_ret (v:=.agg #[.int .i64 (max v 0),.int .i64 (q)]) (by simp [results,Tryz.results104,go_sem,k0,k1]) rfl ⟨?_,hB5⟩
   exact ret_ag (by unfold prtS; simp) (by rw [<- HQ.out]; unfold prtM; simp)
 have g1:(k == 1) = false:=by simp [h1]
 by_cases h2:k = 2
 ·subst h2
  cases c with
  | false =>
   obtain ⟨W1,hW1⟩:∃ W1,W1 = (w.alloc (.cells #[.int .u8 2,.int .i64 st,.int .i64 so,.int .i64 dm,.int .i64 ep] 40)).alloc (.cells #[.int .i64 0,.int .i64 0] 159):=⟨_,rfl⟩
   have hal:=al2 w (.cells #[.int .u8 2,.int .i64 st,.int .i64 so,.int .i64 dm,.int .i64 ep] 40) (.cells #[.int .i64 0,.int .i64 0] 159)
   rw [<- hW1] at hal
   obtain ⟨b0,e0⟩:∃ b0,b0 = w.heap.size:=⟨_,rfl⟩
   obtain ⟨b1,e1⟩:∃ b1,b1 = w.heap.size + 1:=⟨_,rfl⟩
   obtain ⟨x0,x1,hb⟩:=hal
   rw [<- e0] at x0; rw [<- e1] at x1
   have X0:=jH x0; have X1:=jH x1; have HB:=jH hb
   have HGE:Hid (w.heap.size <= b1):=jH (by omega)
   clear x0 x1 hb
   go_enter Tryz.func104,Tryz.ntmps104
   go_upto_region 1 with fail
   rw [<- hW1]
   rw [show w.heap.size + 1 = b1 from e1.symm,show w.heap.size = b0 from e0.symm]
   clear hW1 e0 e1
   obtain ⟨j0,j1,j2,j3,j4,_⟩:=jb_cells X0.out
   obtain ⟨y0,y1,yf⟩:=tot_cells X1.out
   go_wp2_with fail
   have hp:=put_tot X1.out (0) (0)
   obtain ⟨k0,k1,_⟩:=tot_cells hp
   have hB5:Below w.heap.size w ((W1.setCell ⟨b1,0,none⟩ (.int .i64 (0))).setCell ⟨b1,1,none⟩ (.int .i64 (0))):=(HB.out.setCell (p:=⟨b1,0,none⟩) HGE.out _).setCell (p:=⟨b1,1,none⟩) HGE.out _
   refine bodyPost_ret (v:=.agg #[.int .i64 (0),.int .i64 (0)]) (by simp [results,Tryz.results104,go_sem,k0,k1]) rfl ⟨?_,hB5⟩
   exact ret_ag (by unfold prtS; simp) (by unfold prtM; simp)
  | true =>
   obtain ⟨W1,hW1⟩:∃ W1,W1 = (w.alloc (.cells #[.int .u8 2,.int .i64 st,.int .i64 so,.int .i64 dm,.int .i64 ep] 40)).alloc (.cells #[.int .i64 0,.int .i64 0] 159):=⟨_,rfl⟩
   have hal:=al2 w (.cells #[.int .u8 2,.int .i64 st,.int .i64 so,.int .i64 dm,.int .i64 ep] 40) (.cells #[.int .i64 0,.int .i64 0] 159)
   rw [<- hW1] at hal
   obtain ⟨b0,e0⟩:∃ b0,b0 = w.heap.size:=⟨_,rfl⟩
   obtain ⟨b1,e1⟩:∃ b1,b1 = w.heap.size + 1:=⟨_,rfl⟩
   obtain ⟨x0,x1,hb⟩:=hal
   rw [<- e0] at x0; rw [<- e1] at x1
   have X0:=jH x0; have X1:=jH x1; have HB:=jH hb
   have HGE:Hid (w.heap.size <= b1):=jH (by omega)
   clear x0 x1 hb
   go_enter Tryz.func104,Tryz.ntmps104
   go_upto_region 1 with fail
   rw [<- hW1]
   rw [show w.heap.size + 1 = b1 from e1.symm,show w.heap.size = b0 from e0.symm]
   clear hW1 e0 e1
   obtain ⟨j0,j1,j2,j3,j4,_⟩:=jb_cells X0.out
   obtain ⟨y0,y1,yf⟩:=tot_cells X1.out
   go_wp2_with fail
   have hp:=put_tot X1.out (0) (1)
   obtain ⟨k0,k1,_⟩:=tot_cells hp
   have hB5:Below w.heap.size w ((W1.setCell ⟨b1,0,none⟩ (.int .i64 (0))).setCell ⟨b1,1,none⟩ (.int .i64 (1))):=(HB.out.setCell (p:=⟨b1,0,none⟩) HGE.out _).setCell (p:=⟨b1,1,none⟩) HGE.out _
   refine bodyPost_ret (v:=.agg #[.int .i64 (0),.int .i64 (1)]) (by simp [results,Tryz.results104,go_sem,k0,k1]) rfl ⟨?_,hB5⟩
   exact ret_ag (by unfold prtS; simp) (by unfold prtM; simp)
 have g2:(k == 2) = false:=by simp [h2]
 by_cases h3:k = 3
 ·subst h3
  cases c with
  | false =>
   obtain ⟨W1,hW1⟩:∃ W1,W1 = (w.alloc (.cells #[.int .u8 3,.int .i64 st,.int .i64 so,.int .i64 dm,.int .i64 ep] 40)).alloc (.cells #[.int .i64 0,.int .i64 0] 159):=⟨_,rfl⟩
   have hal:=al2 w (.cells #[.int .u8 3,.int .i64 st,.int .i64 so,.int .i64 dm,.int .i64 ep] 40) (.cells #[.int .i64 0,.int .i64 0] 159)
   rw [<- hW1] at hal
   obtain ⟨b0,e0⟩:∃ b0,b0 = w.heap.size:=⟨_,rfl⟩
   obtain ⟨b1,e1⟩:∃ b1,b1 = w.heap.size + 1:=⟨_,rfl⟩
   obtain ⟨x0,x1,hb⟩:=hal
   rw [<- e0] at x0; rw [<- e1] at x1
   have X0:=jH x0; have X1:=jH x1; have HB:=jH hb
   have HGE:Hid (w.heap.size <= b1):=jH (by omega)
   clear x0 x1 hb
   go_enter Tryz.func104,Tryz.ntmps104
   go_upto_region 1 with fail
   rw [<- hW1]
   rw [show w.heap.size + 1 = b1 from e1.symm,show w.heap.size = b0 from e0.symm]
   clear hW1 e0 e1
   obtain ⟨j0,j1,j2,j3,j4,_⟩:=jb_cells X0.out
   obtain ⟨y0,y1,yf⟩:=tot_cells X1.out
   go_wp2_with fail
   have hp:=put_tot X1.out (0) (0)
   obtain ⟨k0,k1,_⟩:=tot_cells hp
   have hB5:Below w.heap.size w ((W1.setCell ⟨b1,0,none⟩ (.int .i64 (0))).setCell ⟨b1,1,none⟩ (.int .i64 (0))):=(HB.out.setCell (p:=⟨b1,0,none⟩) HGE.out _).setCell (p:=⟨b1,1,none⟩) HGE.out _
   refine bodyPost_ret (v:=.agg #[.int .i64 (0),.int .i64 (0)]) (by simp [results,Tryz.results104,go_sem,k0,k1]) rfl ⟨?_,hB5⟩
   exact ret_ag (by unfold prtS; simp) (by unfold prtM; simp)
  | true =>
   obtain ⟨W1,hW1⟩:∃ W1,W1 = (w.alloc (.cells #[.int .u8 3,.int .i64 st,.int .i64 so,.int .i64 dm,.int .i64 ep] 40)).alloc (.cells #[.int .i64 0,.int .i64 0] 159):=⟨_,rfl⟩
   have hal:=al2 w (.cells #[.int .u8 3,.int .i64 st,.int .i64 so,.int .i64 dm,.int .i64 ep] 40) (.cells #[.int .i64 0,.int .i64 0] 159)
   rw [<- hW1] at hal
   obtain ⟨b0,e0⟩:∃ b0,b0 = w.heap.size:=⟨_,rfl⟩
   obtain ⟨b1,e1⟩:∃ b1,b1 = w.heap.size + 1:=⟨_,rfl⟩
   obtain ⟨x0,x1,hb⟩:=hal
   rw [<- e0] at x0; rw [<- e1] at x1
   have X0:=jH x0; have X1:=jH x1; have HB:=jH hb
   have HGE:Hid (w.heap.size <= b1):=jH (by omega)
   clear x0 x1 hb
   go_enter Tryz.func104,Tryz.ntmps104
   go_upto_region 1 with fail
   rw [<- hW1]
   rw [show w.heap.size + 1 = b1 from e1.symm,show w.heap.size = b0 from e0.symm]
   clear hW1 e0 e1
   obtain ⟨j0,j1,j2,j3,j4,_⟩:=jb_cells X0.out
   obtain ⟨y0,y1,yf⟩:=tot_cells X1.out
   go_wp2_with fail
   have hp:=put_tot X1.out (0) (1)
   obtain ⟨k0,k1,_⟩:=tot_cells hp
   have hB5:Below w.heap.size w ((W1.setCell ⟨b1,0,none⟩ (.int .i64 (0))).setCell ⟨b1,1,none⟩ (.int .i64 (1))):=(HB.out.setCell (p:=⟨b1,0,none⟩) HGE.out _).setCell (p:=⟨b1,1,none⟩) HGE.out _
   refine bodyPost_ret (v:=.agg #[.int .i64 (0),.int .i64 (1)]) (by simp [results,Tryz.results104,go_sem,k0,k1]) rfl ⟨?_,hB5⟩
   exact ret_ag (by unfold prtS; simp) (by unfold prtM; simp)
 have g3:(k == 3) = false:=by simp [h3]
 obtain ⟨W1,hW1⟩:∃ W1,W1 = (w.alloc (.cells #[.int .u8 k,.int .i64 st,.int .i64 so,.int .i64 dm,.int .i64 ep] 40)).alloc (.cells #[.int .i64 0,.int .i64 0] 159):=⟨_,rfl⟩
 have hal:=al2 w (.cells #[.int .u8 k,.int .i64 st,.int .i64 so,.int .i64 dm,.int .i64 ep] 40) (.cells #[.int .i64 0,.int .i64 0] 159)
 rw [<- hW1] at hal
 obtain ⟨b0,e0⟩:∃ b0,b0 = w.heap.size:=⟨_,rfl⟩
 obtain ⟨b1,e1⟩:∃ b1,b1 = w.heap.size + 1:=⟨_,rfl⟩
 obtain ⟨x0,x1,hb⟩:=hal
 rw [<- e0] at x0; rw [<- e1] at x1
 have X0:=jH x0; have X1:=jH x1; have HB:=jH hb
 have HGE:Hid (w.heap.size <= b1):=jH (by omega)
 clear x0 x1 hb
 go_enter Tryz.func104,Tryz.ntmps104
 go_upto_region 1 with fail
 rw [<- hW1]
 rw [show w.heap.size + 1 = b1 from e1.symm,show w.heap.size = b0 from e0.symm]
 clear hW1 e0 e1
 obtain ⟨j0,j1,j2,j3,j4,_⟩:=jb_cells X0.out
 obtain ⟨y0,y1,yf⟩:=tot_cells X1.out
 go_wp2_with fail
 have hp:=put_tot X1.out (0) (0)
 obtain ⟨k0,k1,_⟩:=tot_cells hp
 have hB5:Below w.heap.size w ((W1.setCell ⟨b1,0,none⟩ (.int .i64 (0))).setCell ⟨b1,1,none⟩ (.int .i64 (0))):=(HB.out.setCell (p:=⟨b1,0,none⟩) HGE.out _).setCell (p:=⟨b1,1,none⟩) HGE.out _
 refine bodyPost_ret (v:=.agg #[.int .i64 (0),.int .i64 (0)]) (by simp [results,Tryz.results104,go_sem,k0,k1]) rfl ⟨?_,hB5⟩
 exact ret_ag (by unfold prtS; rw [if_neg h1]) (by unfold prtM; rw [if_neg h1,if_neg (by omega)])
open Go.RowKit Gr Wd Ws Fx Rk Lb
set_option maxRecDepth 100000 in
set_option maxHeartbeats 2000000 in
theorem rjoin_any (k st so dm ep a b c d:Int) (w:World):Calls Tryz.prog 103 #[.agg #[.int .u8 k,.int .i64 st,.int .i64 so,.int .i64 dm,.int .i64 ep],.agg #[.int .i64 a,.int .i64 b],.agg #[.int .i64 c,.int .i64 d]] w fun e w' => e = .returned (.agg #[.int .i64 (jonS k a c),.int .i64 (jonM k b d)])/\Below w.heap.size w w':=by
 have mixed:=mixedO
 by_cases h1:k = 1
 ·subst h1
  obtain ⟨W1,hW1⟩:∃ W1,W1 = (((w.alloc (.cells #[.int .u8 1,.int .i64 st,.int .i64 so,.int .i64 dm,.int .i64 ep] 40)).alloc (.cells #[.int .i64 a,.int .i64 b] 159)).alloc (.cells #[.int .i64 c,.int .i64 d] 159)).alloc (.cells #[.int .i64 0,.int .i64 0] 159):=⟨_,rfl⟩
  have hal:=al4 w (.cells #[.int .u8 1,.int .i64 st,.int .i64 so,.int .i64 dm,.int .i64 ep] 40) (.cells #[.int .i64 a,.int .i64 b] 159) (.cells #[.int .i64 c,.int .i64 d] 159) (.cells #[.int .i64 0,.int .i64 0] 159)
  rw [<- hW1] at hal
  obtain ⟨b0,e0⟩:∃ b0,b0 = w.heap.size:=⟨_,rfl⟩
  obtain ⟨b2,e2⟩:∃ b2,b2 = w.heap.size + 1:=⟨_,rfl⟩
  obtain ⟨b3,e3⟩:∃ b3,b3 = w.heap.size + 2:=⟨_,rfl⟩
  obtain ⟨b1,e1⟩:∃ b1,b1 = w.heap.size + 3:=⟨_,rfl⟩
  obtain ⟨x0,x2,x3,x1,hb⟩:=hal
  rw [<- e0] at x0; rw [<- e1] at x1; rw [<- e2] at x2; rw [<- e3] at x3
  have X1:=jH x1; have HB:=jH hb
  have HGE:Hid (w.heap.size <= b1):=jH (by omega)
  obtain ⟨j0,_,_,_,_,_⟩:=jb_cells x0
  obtain ⟨y0,y1,_⟩:=tot_cells x2
  obtain ⟨z0,z1,_⟩:=tot_cells x3
  clear x0 x1 x2 x3 hb
  go_enter Tryz.func103,Tryz.ntmps103
  go_upto_region 1 with fail
  rw [<- hW1]
  rw [show w.heap.size + 3 = b1 from e1.symm,show w.heap.size + 2 = b3 from e3.symm,show w.heap.size + 1 = b2 from e2.symm,show w.heap.size = b0 from e0.symm]
  clear hW1 e0 e1 e2 e3
  go_wp2_with fail
  have fy0:=cell_regrown y0; have fy1:=cell_regrown y1; have fz0:=cell_regrown z0; have fz1:=cell_regrown z1
  have C1:=jH (regr fun W (_:Below W1.heap.size W1 W) => raddq a c W)
  clear y0 y1 z0 z1 j0
  refine Tl.region_tail_below 11 mixed (by kernel_rfl) ?_
  simp only [List.take_succ_cons,List.take_zero,List.drop_succ_cons,List.drop_zero]
  repeat (go_big_quiet_step ((with_reducible exact C1.out _ _)))
  refine wpQuiet_nil ?_
  intro _ hw'
  obtain ⟨⟨dq,osq⟩,hw''⟩:=hw'
  subst hw''
  obtain ⟨W4,hW4⟩:∃ W4,W4 = Sort.grow (redrawn W1 dq) osq:=⟨_,rfl⟩
  have hb4:Below W1.heap.size W1 W4:=by rw [hW4]; exact below_regrown W1 dq osq
  rw [<- hW4]
  have Z3:=jK X1 hb4
  have HB4:=jS HB hb4
  clear hW4 hb4 fy0 fy1 fz0 fz1 C1
  obtain ⟨u0,u1,u2⟩:=tot_cells Z3.out
  go_wp2_with fail
  have hp:=put_tot Z3.out (addI a c) (max b d)
  obtain ⟨k0,k1,_⟩:=tot_cells hp
  have hB5:Below w.heap.size w ((W4.setCell ⟨b1,0,none⟩ (.int .i64 (addI a c))).setCell ⟨b1,1,none⟩ (.int .i64 (max b d))):=(HB4.out.setCell (p:=⟨b1,0,none⟩) HGE.out _).setCell (p:=⟨b1,1,none⟩) HGE.out _
  refine bodyPost_ret (v:=.agg #[.int .i64 (addI a c),.int .i64 (max b d)]) (by simp [results,Tryz.results103,go_sem,k0,k1]) rfl ⟨?_,hB5⟩
  exact ret_ag (by unfold jonS; simp) (by unfold jonM; simp)
 have g1:(k == 1) = false:=by simp [h1]
 by_cases h2:k = 2
 ·subst h2
  obtain ⟨W1,hW1⟩:∃ W1,W1 = (((w.alloc (.cells #[.int .u8 2,.int .i64 st,.int .i64 so,.int .i64 dm,.int .i64 ep] 40)).alloc (.cells #[.int .i64 a,.int .i64 b] 159)).alloc (.cells #[.int .i64 c,.int .i64 d] 159)).alloc (.cells #[.int .i64 0,.int .i64 0] 159):=⟨_,rfl⟩
  have hal:=al4 w (.cells #[.int .u8 2,.int .i64 st,.int .i64 so,.int .i64 dm,.int .i64 ep] 40) (.cells #[.int .i64 a,.int .i64 b] 159) (.cells #[.int .i64 c,.int .i64 d] 159) (.cells #[.int .i64 0,.int .i64 0] 159)
  rw [<- hW1] at hal
  obtain ⟨b0,e0⟩:∃ b0,b0 = w.heap.size:=⟨_,rfl⟩
  obtain ⟨b2,e2⟩:∃ b2,b2 = w.heap.size + 1:=⟨_,rfl⟩
  obtain ⟨b3,e3⟩:∃ b3,b3 = w.heap.size + 2:=⟨_,rfl⟩
  obtain ⟨b1,e1⟩:∃ b1,b1 = w.heap.size + 3:=⟨_,rfl⟩
  obtain ⟨x0,x2,x3,x1,hb⟩:=hal
  rw [<- e0] at x0; rw [<- e1] at x1; rw [<- e2] at x2; rw [<- e3] at x3
  have X1:=jH x1; have HB:=jH hb
  have HGE:Hid (w.heap.size <= b1):=jH (by omega)
  obtain ⟨j0,_,_,_,_,_⟩:=jb_cells x0
  obtain ⟨y0,y1,_⟩:=tot_cells x2
  obtain ⟨z0,z1,_⟩:=tot_cells x3
  clear x0 x1 x2 x3 hb
  go_enter Tryz.func103,Tryz.ntmps103
  go_upto_region 1 with fail
  rw [<- hW1]
  rw [show w.heap.size + 3 = b1 from e1.symm,show w.heap.size + 2 = b3 from e3.symm,show w.heap.size + 1 = b2 from e2.symm,show w.heap.size = b0 from e0.symm]
  clear hW1 e0 e1 e2 e3
  go_wp2_with fail
  have fy0:=cell_regrown y0; have fy1:=cell_regrown y1; have fz0:=cell_regrown z0; have fz1:=cell_regrown z1
  have C1:=jH (regr fun W (_:Below W1.heap.size W1 W) => raddq a c W)
  have C2:=jH (regr fun W (_:Below W1.heap.size W1 W) => raddq b d W)
  clear y0 y1 z0 z1 j0
  refine Tl.region_tail_below 11 mixed (by kernel_rfl) ?_
  simp only [List.take_succ_cons,List.take_zero,List.drop_succ_cons,List.drop_zero]
  repeat (go_big_quiet_step ((with_reducible first | exact C1.out _ _ | exact C2.out _ _)))
  refine wpQuiet_nil ?_
  intro _ hw'
  obtain ⟨⟨dq,osq⟩,hw''⟩:=hw'
  subst hw''
  obtain ⟨W4,hW4⟩:∃ W4,W4 = Sort.grow (redrawn W1 dq) osq:=⟨_,rfl⟩
  have hb4:Below W1.heap.size W1 W4:=by rw [hW4]; exact below_regrown W1 dq osq
  rw [<- hW4]
  have Z3:=jK X1 hb4
  have HB4:=jS HB hb4
  clear hW4 hb4 fy0 fy1 fz0 fz1 C1 C2
  obtain ⟨u0,u1,u2⟩:=tot_cells Z3.out
  go_wp2_with fail
  have hp:=put_tot Z3.out (addI a c) (addI b d)
  obtain ⟨k0,k1,_⟩:=tot_cells hp
  have hB5:Below w.heap.size w ((W4.setCell ⟨b1,0,none⟩ (.int .i64 (addI a c))).setCell ⟨b1,1,none⟩ (.int .i64 (addI b d))):=(HB4.out.setCell (p:=⟨b1,0,none⟩) HGE.out _).setCell (p:=⟨b1,1,none⟩) HGE.out _
  refine bodyPost_ret (v:=.agg #[.int .i64 (addI a c),.int .i64 (addI b d)]) (by simp [results,Tryz.results103,go_sem,k0,k1]) rfl ⟨?_,hB5⟩
  exact ret_ag (by unfold jonS; simp) (by unfold jonM; simp)
 have g2:(k == 2) = false:=by simp [h2]
 by_cases h3:k = 3
 ·subst h3
  obtain ⟨W1,hW1⟩:∃ W1,W1 = (((w.alloc (.cells #[.int .u8 3,.int .i64 st,.int .i64 so,.int .i64 dm,.int .i64 ep] 40)).alloc (.cells #[.int .i64 a,.int .i64 b] 159)).alloc (.cells #[.int .i64 c,.int .i64 d] 159)).alloc (.cells #[.int .i64 0,.int .i64 0] 159):=⟨_,rfl⟩
  have hal:=al4 w (.cells #[.int .u8 3,.int .i64 st,.int .i64 so,.int .i64 dm,.int .i64 ep] 40) (.cells #[.int .i64 a,.int .i64 b] 159) (.cells #[.int .i64 c,.int .i64 d] 159) (.cells #[.int .i64 0,.int .i64 0] 159)
  rw [<- hW1] at hal
  obtain ⟨b0,e0⟩:∃ b0,b0 = w.heap.size:=⟨_,rfl⟩
  obtain ⟨b2,e2⟩:∃ b2,b2 = w.heap.size + 1:=⟨_,rfl⟩
  obtain ⟨b3,e3⟩:∃ b3,b3 = w.heap.size + 2:=⟨_,rfl⟩
  obtain ⟨b1,e1⟩:∃ b1,b1 = w.heap.size + 3:=⟨_,rfl⟩
  obtain ⟨x0,x2,x3,x1,hb⟩:=hal
  rw [<- e0] at x0; rw [<- e1] at x1; rw [<- e2] at x2; rw [<- e3] at x3
  have X1:=jH x1; have HB:=jH hb
  have HGE:Hid (w.heap.size <= b1):=jH (by omega)
  obtain ⟨j0,_,_,_,_,_⟩:=jb_cells x0
  obtain ⟨y0,y1,_⟩:=tot_cells x2
  obtain ⟨z0,z1,_⟩:=tot_cells x3
  clear x0 x1 x2 x3 hb
  go_enter Tryz.func103,Tryz.ntmps103
  go_upto_region 1 with fail
  rw [<- hW1]
  rw [show w.heap.size + 3 = b1 from e1.symm,show w.heap.size + 2 = b3 from e3.symm,show w.heap.size + 1 = b2 from e2.symm,show w.heap.size = b0 from e0.symm]
  clear hW1 e0 e1 e2 e3
  go_wp2_with fail
  have fy0:=cell_regrown y0; have fy1:=cell_regrown y1; have fz0:=cell_regrown z0; have fz1:=cell_regrown z1
  have C1:=jH (regr fun W (_:Below W1.heap.size W1 W) => raddq a c W)
  have C2:=jH (regr fun W (_:Below W1.heap.size W1 W) => raddq b d W)
  clear y0 y1 z0 z1 j0
  refine Tl.region_tail_below 11 mixed (by kernel_rfl) ?_
  simp only [List.take_succ_cons,List.take_zero,List.drop_succ_cons,List.drop_zero]
  repeat (go_big_quiet_step ((with_reducible first | exact C1.out _ _ | exact C2.out _ _)))
  refine wpQuiet_nil ?_
  intro _ hw'
  obtain ⟨⟨dq,osq⟩,hw''⟩:=hw'
  subst hw''
  obtain ⟨W4,hW4⟩:∃ W4,W4 = Sort.grow (redrawn W1 dq) osq:=⟨_,rfl⟩
  have hb4:Below W1.heap.size W1 W4:=by rw [hW4]; exact below_regrown W1 dq osq
  rw [<- hW4]
  have Z3:=jK X1 hb4
  have HB4:=jS HB hb4
  clear hW4 hb4 fy0 fy1 fz0 fz1 C1 C2
  obtain ⟨u0,u1,u2⟩:=tot_cells Z3.out
  go_wp2_with fail
  have hp:=put_tot Z3.out (addI a c) (addI b d)
  obtain ⟨k0,k1,_⟩:=tot_cells hp
  have hB5:Below w.heap.size w ((W4.setCell ⟨b1,0,none⟩ (.int .i64 (addI a c))).setCell ⟨b1,1,none⟩ (.int .i64 (addI b d))):=(HB4.out.setCell (p:=⟨b1,0,none⟩) HGE.out _).setCell (p:=⟨b1,1,none⟩) HGE.out _
  refine bodyPost_ret (v:=.agg #[.int .i64 (addI a c),.int .i64 (addI b d)]) (by simp [results,Tryz.results103,go_sem,k0,k1]) rfl ⟨?_,hB5⟩
  exact ret_ag (by unfold jonS; simp) (by unfold jonM; simp)
 have g3:(k == 3) = false:=by simp [h3]
 obtain ⟨W1,hW1⟩:∃ W1,W1 = (((w.alloc (.cells #[.int .u8 k,.int .i64 st,.int .i64 so,.int .i64 dm,.int .i64 ep] 40)).alloc (.cells #[.int .i64 a,.int .i64 b] 159)).alloc (.cells #[.int .i64 c,.int .i64 d] 159)).alloc (.cells #[.int .i64 0,.int .i64 0] 159):=⟨_,rfl⟩
 have hal:=al4 w (.cells #[.int .u8 k,.int .i64 st,.int .i64 so,.int .i64 dm,.int .i64 ep] 40) (.cells #[.int .i64 a,.int .i64 b] 159) (.cells #[.int .i64 c,.int .i64 d] 159) (.cells #[.int .i64 0,.int .i64 0] 159)
 rw [<- hW1] at hal
 obtain ⟨b0,e0⟩:∃ b0,b0 = w.heap.size:=⟨_,rfl⟩
 obtain ⟨b2,e2⟩:∃ b2,b2 = w.heap.size + 1:=⟨_,rfl⟩
 obtain ⟨b3,e3⟩:∃ b3,b3 = w.heap.size + 2:=⟨_,rfl⟩
 obtain ⟨b1,e1⟩:∃ b1,b1 = w.heap.size + 3:=⟨_,rfl⟩
 obtain ⟨x0,x2,x3,x1,hb⟩:=hal
 rw [<- e0] at x0; rw [<- e1] at x1; rw [<- e2] at x2; rw [<- e3] at x3
 have X1:=jH x1; have HB:=jH hb
 have HGE:Hid (w.heap.size <= b1):=jH (by omega)
 obtain ⟨j0,_,_,_,_,_⟩:=jb_cells x0
 obtain ⟨y0,y1,_⟩:=tot_cells x2
 obtain ⟨z0,z1,_⟩:=tot_cells x3
 clear x0 x1 x2 x3 hb
 go_enter Tryz.func103,Tryz.ntmps103
 go_upto_region 1 with fail
 rw [<- hW1]
 rw [show w.heap.size + 3 = b1 from e1.symm,show w.heap.size + 2 = b3 from e3.symm,show w.heap.size + 1 = b2 from e2.symm,show w.heap.size = b0 from e0.symm]
 clear hW1 e0 e1 e2 e3
 obtain ⟨u0,u1,u2⟩:=tot_cells X1.out
 go_wp2_with fail
 have hp:=put_tot X1.out (0) (0)
 obtain ⟨k0,k1,_⟩:=tot_cells hp
 have hB5:Below w.heap.size w ((W1.setCell ⟨b1,0,none⟩ (.int .i64 (0))).setCell ⟨b1,1,none⟩ (.int .i64 (0))):=(HB.out.setCell (p:=⟨b1,0,none⟩) HGE.out _).setCell (p:=⟨b1,1,none⟩) HGE.out _
 refine bodyPost_ret (v:=.agg #[.int .i64 (0),.int .i64 (0)]) (by simp [results,Tryz.results103,go_sem,k0,k1]) rfl ⟨?_,hB5⟩
 exact ret_ag (by unfold jonS; rw [if_neg (by omega)]) (by unfold jonM; rw [if_neg h1,if_neg (by omega)])
end Go.Proofs.YtdcaekmgfcpbmaaGreat.Al
