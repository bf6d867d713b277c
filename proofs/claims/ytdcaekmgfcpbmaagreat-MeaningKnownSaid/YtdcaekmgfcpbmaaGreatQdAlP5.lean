/-
  What is proved here: contracts of algos.Check, and of the document, its Start, Compute, Done, Check, Part, Join. Conditions: numbers fit an int.
-/
import Derived.Test.YtdcaekmgfcpbmaaGreatQdAlP4x
import Derived.Stop.Asserts
namespace Go.Proofs.YtdcaekmgfcpbmaaGreat.Al
open Go.RowKit Gr Wd Ws Fx Rk Lb
set_option maxRecDepth 100000 in
set_option maxHeartbeats 2000000 in
theorem checkj_any (k st so dm ep V:Int) (A:Option Addr) (c:Nat) (L:List Ed) (w:World) (hL:EAt w A L) (hm:L.length <= 9223372036854775807) :
 Calls Tryz.prog 16 #[.agg #[.int .i64 V,.slice A L.length c],.agg #[.int .u8 k,.int .i64 st,.int .i64 so,.int .i64 dm,.int .i64 ep]] w fun e w' => e = .returned (.int .i64 (chkJ k st so dm ep V L))/\Below w.heap.size w w':=by
 by_cases hgz:chk V L = 0
 ·by_cases h1:k = 1
  ·subst h1
   have hJ:jobOk 1 st so dm ep V = (decide (0 <= st) && decide (st <= 2000) && (decide (0 <= dm/\dm <= 4294967296) && decide (0 <= ep/\ep <= 4294967296) && decide (so = 0))):=by unfold jobOk; by_cases a1:0 <= dm <;> by_cases a2:dm <= 4294967296 <;> by_cases a3:0 <= ep <;> by_cases a4:ep <= 4294967296 <;> simp [a1,a2,a3,a4]
   obtain ⟨q,hq⟩:∃ q,(decide (0 <= dm/\dm <= 4294967296) && decide (0 <= ep/\ep <= 4294967296) && decide (so = 0)) = q:=⟨_,rfl⟩
   rw [hq] at hJ
   have HJ:=jH hJ
   have c1:=fun W => may_ranks 1 st so dm ep V W
   rw [hq] at c1
   have C1:=jH c1
   clear hJ hq c1
   by_cases s0:0 <= st
   ·by_cases s1:st <= 2000
    ·cases q
     ·have hl:=look_mayBe_1 st so dm ep
      obtain ⟨W1,hW1⟩:∃ W1,W1 = (w.alloc (.cells #[.int .i64 V,.slice A L.length c] 24)).alloc (.cells #[.int .u8 1,.int .i64 st,.int .i64 so,.int .i64 dm,.int .i64 ep] 40):=⟨_,rfl⟩
      have hal:=al2 w (.cells #[.int .i64 V,.slice A L.length c] 24) (.cells #[.int .u8 1,.int .i64 st,.int .i64 so,.int .i64 dm,.int .i64 ep] 40)
      rw [<- hW1] at hal
      obtain ⟨b0,e0⟩:∃ b0,b0 = w.heap.size:=⟨_,rfl⟩
      obtain ⟨b1,e1⟩:∃ b1,b1 = w.heap.size + 1:=⟨_,rfl⟩
      obtain ⟨x0,x1,hb⟩:=hal
      rw [<- e0] at x0; rw [<- e1] at x1
      have X0:=jH x0; have X1:=jH x1; have HB:=jH hb
      have HCK:=jH (check_any V A c L W1 (hL.below hb) hm)
      obtain ⟨g,hg⟩:∃ g,chk V L = g:=⟨_,rfl⟩
      rw [hg] at HCK hgz
      have HG:=jH hg
      obtain ⟨n,hn⟩:∃ n,n = L.length:=⟨_,rfl⟩
      rw [<- hn] at HCK X0 hW1 ⊢
      clear x0 x1 hb hg hn hL hm
      go_enter Tryz.func16,Tryz.ntmps16
      go_upto_region 1 with fail
      rw [<- hW1]
      rw [show w.heap.size + 1 = b1 from e1.symm,show w.heap.size = b0 from e0.symm]
      clear hW1 e0 e1
      obtain ⟨k0,k1,_⟩:=Bx.cells X0.out
      go_wp2_with fail
      refine HCK.out.mono ?_
      rintro e w2 ⟨rfl,hb2⟩
      have Y0:=jK X0 hb2; have Y1:=jK X1 hb2; have HB2:=jS HB hb2
      clear hb2 X0 X1 k0 k1 HCK
      have hg0:g = 0:=hgz
      subst hg0
      obtain ⟨j0,j1,j2,j3,j4,_⟩:=jb_cells Y1.out
      go_wp2_with fail
      clear j0 j1 j2 j3 j4
      refine (prog_1 st so dm ep _).mono ?_
      rintro e w3 ⟨rfl,hb3⟩
      have Z0:=jK Y0 hb3; have Z1:=jK Y1 hb3; have HB3:=jS HB2 hb3
      clear hb3 Y0 Y1
      obtain ⟨_,j1,_,_,_,_⟩:=jb_cells Z1.out
      obtain ⟨k0,k1,_⟩:=Bx.cells Z0.out
      go_wp2_with fail
      refine (C1.out _).mono ?_
      rintro e w4 ⟨rfl,hb4⟩
      have HB4:=jS HB3 hb4
      clear hb4 j1 k0 k1
      go_wp2
      all_goals (go_ret; exact ⟨Fx.ret_int (by unfold chkJ; rw [HG.out,if_pos rfl,HJ.out]; simp [*]),HB4.out⟩)
     ·have hl:=look_mayBe_1 st so dm ep
      obtain ⟨W1,hW1⟩:∃ W1,W1 = (w.alloc (.cells #[.int .i64 V,.slice A L.length c] 24)).alloc (.cells #[.int .u8 1,.int .i64 st,.int .i64 so,.int .i64 dm,.int .i64 ep] 40):=⟨_,rfl⟩
      have hal:=al2 w (.cells #[.int .i64 V,.slice A L.length c] 24) (.cells #[.int .u8 1,.int .i64 st,.int .i64 so,.int .i64 dm,.int .i64 ep] 40)
      rw [<- hW1] at hal
      obtain ⟨b0,e0⟩:∃ b0,b0 = w.heap.size:=⟨_,rfl⟩
      obtain ⟨b1,e1⟩:∃ b1,b1 = w.heap.size + 1:=⟨_,rfl⟩
      obtain ⟨x0,x1,hb⟩:=hal
      rw [<- e0] at x0; rw [<- e1] at x1
      have X0:=jH x0; have X1:=jH x1; have HB:=jH hb
      have HCK:=jH (check_any V A c L W1 (hL.below hb) hm)
      obtain ⟨g,hg⟩:∃ g,chk V L = g:=⟨_,rfl⟩
      rw [hg] at HCK hgz
      have HG:=jH hg
      obtain ⟨n,hn⟩:∃ n,n = L.length:=⟨_,rfl⟩
      rw [<- hn] at HCK X0 hW1 ⊢
      clear x0 x1 hb hg hn hL hm
      go_enter Tryz.func16,Tryz.ntmps16
      go_upto_region 1 with fail
      rw [<- hW1]
      rw [show w.heap.size + 1 = b1 from e1.symm,show w.heap.size = b0 from e0.symm]
      clear hW1 e0 e1
      obtain ⟨k0,k1,_⟩:=Bx.cells X0.out
      go_wp2_with fail
      refine HCK.out.mono ?_
      rintro e w2 ⟨rfl,hb2⟩
      have Y0:=jK X0 hb2; have Y1:=jK X1 hb2; have HB2:=jS HB hb2
      clear hb2 X0 X1 k0 k1 HCK
      have hg0:g = 0:=hgz
      subst hg0
      obtain ⟨j0,j1,j2,j3,j4,_⟩:=jb_cells Y1.out
      go_wp2_with fail
      clear j0 j1 j2 j3 j4
      refine (prog_1 st so dm ep _).mono ?_
      rintro e w3 ⟨rfl,hb3⟩
      have Z0:=jK Y0 hb3; have Z1:=jK Y1 hb3; have HB3:=jS HB2 hb3
      clear hb3 Y0 Y1
      obtain ⟨_,j1,_,_,_,_⟩:=jb_cells Z1.out
      obtain ⟨k0,k1,_⟩:=Bx.cells Z0.out
      go_wp2_with fail
      refine (C1.out _).mono ?_
      rintro e w4 ⟨rfl,hb4⟩
      have HB4:=jS HB3 hb4
      clear hb4 j1 k0 k1
      go_wp2
      all_goals (go_ret; exact ⟨Fx.ret_int (by unfold chkJ; rw [HG.out,if_pos rfl,HJ.out]; simp [*]),HB4.out⟩)
    ·have hl:=look_mayBe_1 st so dm ep
     obtain ⟨W1,hW1⟩:∃ W1,W1 = (w.alloc (.cells #[.int .i64 V,.slice A L.length c] 24)).alloc (.cells #[.int .u8 1,.int .i64 st,.int .i64 so,.int .i64 dm,.int .i64 ep] 40):=⟨_,rfl⟩
     have hal:=al2 w (.cells #[.int .i64 V,.slice A L.length c] 24) (.cells #[.int .u8 1,.int .i64 st,.int .i64 so,.int .i64 dm,.int .i64 ep] 40)
     rw [<- hW1] at hal
     obtain ⟨b0,e0⟩:∃ b0,b0 = w.heap.size:=⟨_,rfl⟩
     obtain ⟨b1,e1⟩:∃ b1,b1 = w.heap.size + 1:=⟨_,rfl⟩
     obtain ⟨x0,x1,hb⟩:=hal
     rw [<- e0] at x0; rw [<- e1] at x1
     have X0:=jH x0; have X1:=jH x1; have HB:=jH hb
     have HCK:=jH (check_any V A c L W1 (hL.below hb) hm)
     obtain ⟨g,hg⟩:∃ g,chk V L = g:=⟨_,rfl⟩
     rw [hg] at HCK hgz
     have HG:=jH hg
     obtain ⟨n,hn⟩:∃ n,n = L.length:=⟨_,rfl⟩
     rw [<- hn] at HCK X0 hW1 ⊢
     clear x0 x1 hb hg hn hL hm
     go_enter Tryz.func16,Tryz.ntmps16
     go_upto_region 1 with fail
     rw [<- hW1]
     rw [show w.heap.size + 1 = b1 from e1.symm,show w.heap.size = b0 from e0.symm]
     clear hW1 e0 e1
     obtain ⟨k0,k1,_⟩:=Bx.cells X0.out
     go_wp2_with fail
     refine HCK.out.mono ?_
     rintro e w2 ⟨rfl,hb2⟩
     have Y0:=jK X0 hb2; have Y1:=jK X1 hb2; have HB2:=jS HB hb2
     clear hb2 X0 X1 k0 k1 HCK
     have hg0:g = 0:=hgz
     subst hg0
     obtain ⟨j0,j1,j2,j3,j4,_⟩:=jb_cells Y1.out
     go_wp2_with fail
     clear j0 j1 j2 j3 j4
     refine (prog_1 st so dm ep _).mono ?_
     rintro e w3 ⟨rfl,hb3⟩
     have Z0:=jK Y0 hb3; have Z1:=jK Y1 hb3; have HB3:=jS HB2 hb3
     clear hb3 Y0 Y1
     obtain ⟨_,j1,_,_,_,_⟩:=jb_cells Z1.out
     obtain ⟨k0,k1,_⟩:=Bx.cells Z0.out
     go_wp2
     all_goals (go_ret; exact ⟨Fx.ret_int (by unfold chkJ; rw [HG.out,if_pos rfl,HJ.out]; simp [*]; try omega),HB3.out⟩)
   ·have hl:=look_mayBe_1 st so dm ep
    obtain ⟨W1,hW1⟩:∃ W1,W1 = (w.alloc (.cells #[.int .i64 V,.slice A L.length c] 24)).alloc (.cells #[.int .u8 1,.int .i64 st,.int .i64 so,.int .i64 dm,.int .i64 ep] 40):=⟨_,rfl⟩
    have hal:=al2 w (.cells #[.int .i64 V,.slice A L.length c] 24) (.cells #[.int .u8 1,.int .i64 st,.int .i64 so,.int .i64 dm,.int .i64 ep] 40)
    rw [<- hW1] at hal
    obtain ⟨b0,e0⟩:∃ b0,b0 = w.heap.size:=⟨_,rfl⟩
    obtain ⟨b1,e1⟩:∃ b1,b1 = w.heap.size + 1:=⟨_,rfl⟩
    obtain ⟨x0,x1,hb⟩:=hal
    rw [<- e0] at x0; rw [<- e1] at x1
    have X0:=jH x0; have X1:=jH x1; have HB:=jH hb
    have HCK:=jH (check_any V A c L W1 (hL.below hb) hm)
    obtain ⟨g,hg⟩:∃ g,chk V L = g:=⟨_,rfl⟩
    rw [hg] at HCK hgz
    have HG:=jH hg
    obtain ⟨n,hn⟩:∃ n,n = L.length:=⟨_,rfl⟩
    rw [<- hn] at HCK X0 hW1 ⊢
    clear x0 x1 hb hg hn hL hm
    go_enter Tryz.func16,Tryz.ntmps16
    go_upto_region 1 with fail
    rw [<- hW1]
    rw [show w.heap.size + 1 = b1 from e1.symm,show w.heap.size = b0 from e0.symm]
    clear hW1 e0 e1
    obtain ⟨k0,k1,_⟩:=Bx.cells X0.out
    go_wp2_with fail
    refine HCK.out.mono ?_
    rintro e w2 ⟨rfl,hb2⟩
    have Y0:=jK X0 hb2; have Y1:=jK X1 hb2; have HB2:=jS HB hb2
    clear hb2 X0 X1 k0 k1 HCK
    have hg0:g = 0:=hgz
    subst hg0
    obtain ⟨j0,j1,j2,j3,j4,_⟩:=jb_cells Y1.out
    go_wp2_with fail
    clear j0 j1 j2 j3 j4
    refine (prog_1 st so dm ep _).mono ?_
    rintro e w3 ⟨rfl,hb3⟩
    have Z0:=jK Y0 hb3; have Z1:=jK Y1 hb3; have HB3:=jS HB2 hb3
    clear hb3 Y0 Y1
    obtain ⟨_,j1,_,_,_,_⟩:=jb_cells Z1.out
    obtain ⟨k0,k1,_⟩:=Bx.cells Z0.out
    go_wp2
    all_goals (go_ret; exact ⟨Fx.ret_int (by unfold chkJ; rw [HG.out,if_pos rfl,HJ.out]; simp [*]; try omega),HB3.out⟩)
  by_cases h2:k = 2
  ·subst h2
   have hJ:jobOk 2 st so dm ep V = (decide (0 <= st) && decide (st <= 2000) && (decide (so = 0) && decide (dm = 0) && decide (ep = 0))):=by unfold jobOk; simp
   obtain ⟨q,hq⟩:∃ q,(decide (so = 0) && decide (dm = 0) && decide (ep = 0)) = q:=⟨_,rfl⟩
   rw [hq] at hJ
   have HJ:=jH hJ
   have c1:=fun W => may_labels 2 st so dm ep V W
   rw [hq] at c1
   have C1:=jH c1
   clear hJ hq c1
   by_cases s0:0 <= st
   ·by_cases s1:st <= 2000
    ·cases q
     ·have hl:=look_mayBe_2 st so dm ep
      obtain ⟨W1,hW1⟩:∃ W1,W1 = (w.alloc (.cells #[.int .i64 V,.slice A L.length c] 24)).alloc (.cells #[.int .u8 2,.int .i64 st,.int .i64 so,.int .i64 dm,.int .i64 ep] 40):=⟨_,rfl⟩
      have hal:=al2 w (.cells #[.int .i64 V,.slice A L.length c] 24) (.cells #[.int .u8 2,.int .i64 st,.int .i64 so,.int .i64 dm,.int .i64 ep] 40)
      rw [<- hW1] at hal
      obtain ⟨b0,e0⟩:∃ b0,b0 = w.heap.size:=⟨_,rfl⟩
      obtain ⟨b1,e1⟩:∃ b1,b1 = w.heap.size + 1:=⟨_,rfl⟩
      obtain ⟨x0,x1,hb⟩:=hal
      rw [<- e0] at x0; rw [<- e1] at x1
      have X0:=jH x0; have X1:=jH x1; have HB:=jH hb
      have HCK:=jH (check_any V A c L W1 (hL.below hb) hm)
      obtain ⟨g,hg⟩:∃ g,chk V L = g:=⟨_,rfl⟩
      rw [hg] at HCK hgz
      have HG:=jH hg
      obtain ⟨n,hn⟩:∃ n,n = L.length:=⟨_,rfl⟩
      rw [<- hn] at HCK X0 hW1 ⊢
      clear x0 x1 hb hg hn hL hm
      go_enter Tryz.func16,Tryz.ntmps16
      go_upto_region 1 with fail
      rw [<- hW1]
      rw [show w.heap.size + 1 = b1 from e1.symm,show w.heap.size = b0 from e0.symm]
      clear hW1 e0 e1
      obtain ⟨k0,k1,_⟩:=Bx.cells X0.out
      go_wp2_with fail
      refine HCK.out.mono ?_
      rintro e w2 ⟨rfl,hb2⟩
      have Y0:=jK X0 hb2; have Y1:=jK X1 hb2; have HB2:=jS HB hb2
      clear hb2 X0 X1 k0 k1 HCK
      have hg0:g = 0:=hgz
      subst hg0
      obtain ⟨j0,j1,j2,j3,j4,_⟩:=jb_cells Y1.out
      go_wp2_with fail
      clear j0 j1 j2 j3 j4
      refine (prog_2 st so dm ep _).mono ?_
      rintro e w3 ⟨rfl,hb3⟩
      have Z0:=jK Y0 hb3; have Z1:=jK Y1 hb3; have HB3:=jS HB2 hb3
      clear hb3 Y0 Y1
      obtain ⟨_,j1,_,_,_,_⟩:=jb_cells Z1.out
      obtain ⟨k0,k1,_⟩:=Bx.cells Z0.out
      go_wp2_with fail
      refine (C1.out _).mono ?_
      rintro e w4 ⟨rfl,hb4⟩
      have HB4:=jS HB3 hb4
      clear hb4 j1 k0 k1
      go_wp2
      all_goals (go_ret; exact ⟨Fx.ret_int (by unfold chkJ; rw [HG.out,if_pos rfl,HJ.out]; simp [*]),HB4.out⟩)
     ·have hl:=look_mayBe_2 st so dm ep
      obtain ⟨W1,hW1⟩:∃ W1,W1 = (w.alloc (.cells #[.int .i64 V,.slice A L.length c] 24)).alloc (.cells #[.int .u8 2,.int .i64 st,.int .i64 so,.int .i64 dm,.int .i64 ep] 40):=⟨_,rfl⟩
      have hal:=al2 w (.cells #[.int .i64 V,.slice A L.length c] 24) (.cells #[.int .u8 2,.int .i64 st,.int .i64 so,.int .i64 dm,.int .i64 ep] 40)
      rw [<- hW1] at hal
      obtain ⟨b0,e0⟩:∃ b0,b0 = w.heap.size:=⟨_,rfl⟩
      obtain ⟨b1,e1⟩:∃ b1,b1 = w.heap.size + 1:=⟨_,rfl⟩
      obtain ⟨x0,x1,hb⟩:=hal
      rw [<- e0] at x0; rw [<- e1] at x1
      have X0:=jH x0; have X1:=jH x1; have HB:=jH hb
      have HCK:=jH (check_any V A c L W1 (hL.below hb) hm)
      obtain ⟨g,hg⟩:∃ g,chk V L = g:=⟨_,rfl⟩
      rw [hg] at HCK hgz
      have HG:=jH hg
      obtain ⟨n,hn⟩:∃ n,n = L.length:=⟨_,rfl⟩
      rw [<- hn] at HCK X0 hW1 ⊢
      clear x0 x1 hb hg hn hL hm
      go_enter Tryz.func16,Tryz.ntmps16
      go_upto_region 1 with fail
      rw [<- hW1]
      rw [show w.heap.size + 1 = b1 from e1.symm,show w.heap.size = b0 from e0.symm]
      clear hW1 e0 e1
      obtain ⟨k0,k1,_⟩:=Bx.cells X0.out
      go_wp2_with fail
      refine HCK.out.mono ?_
      rintro e w2 ⟨rfl,hb2⟩
      have Y0:=jK X0 hb2; have Y1:=jK X1 hb2; have HB2:=jS HB hb2
      clear hb2 X0 X1 k0 k1 HCK
      have hg0:g = 0:=hgz
      subst hg0
      obtain ⟨j0,j1,j2,j3,j4,_⟩:=jb_cells Y1.out
      go_wp2_with fail
      clear j0 j1 j2 j3 j4
      refine (prog_2 st so dm ep _).mono ?_
      rintro e w3 ⟨rfl,hb3⟩
      have Z0:=jK Y0 hb3; have Z1:=jK Y1 hb3; have HB3:=jS HB2 hb3
      clear hb3 Y0 Y1
      obtain ⟨_,j1,_,_,_,_⟩:=jb_cells Z1.out
      obtain ⟨k0,k1,_⟩:=Bx.cells Z0.out
      go_wp2_with fail
      refine (C1.out _).mono ?_
      rintro e w4 ⟨rfl,hb4⟩
      have HB4:=jS HB3 hb4
      clear hb4 j1 k0 k1
      go_wp2
      all_goals (go_ret; exact ⟨Fx.ret_int (by unfold chkJ; rw [HG.out,if_pos rfl,HJ.out]; simp [*]),HB4.out⟩)
    ·have hl:=look_mayBe_2 st so dm ep
     obtain ⟨W1,hW1⟩:∃ W1,W1 = (w.alloc (.cells #[.int .i64 V,.slice A L.length c] 24)).alloc (.cells #[.int .u8 2,.int .i64 st,.int .i64 so,.int .i64 dm,.int .i64 ep] 40):=⟨_,rfl⟩
     have hal:=al2 w (.cells #[.int .i64 V,.slice A L.length c] 24) (.cells #[.int .u8 2,.int .i64 st,.int .i64 so,.int .i64 dm,.int .i64 ep] 40)
     rw [<- hW1] at hal
     obtain ⟨b0,e0⟩:∃ b0,b0 = w.heap.size:=⟨_,rfl⟩
     obtain ⟨b1,e1⟩:∃ b1,b1 = w.heap.size + 1:=⟨_,rfl⟩
     obtain ⟨x0,x1,hb⟩:=hal
     rw [<- e0] at x0; rw [<- e1] at x1
     have X0:=jH x0; have X1:=jH x1; have HB:=jH hb
     have HCK:=jH (check_any V A c L W1 (hL.below hb) hm)
     obtain ⟨g,hg⟩:∃ g,chk V L = g:=⟨_,rfl⟩
     rw [hg] at HCK hgz
     have HG:=jH hg
     obtain ⟨n,hn⟩:∃ n,n = L.length:=⟨_,rfl⟩
     rw [<- hn] at HCK X0 hW1 ⊢
     clear x0 x1 hb hg hn hL hm
     go_enter Tryz.func16,Tryz.ntmps16
     go_upto_region 1 with fail
     rw [<- hW1]
     rw [show w.heap.size + 1 = b1 from e1.symm,show w.heap.size = b0 from e0.symm]
     clear hW1 e0 e1
     obtain ⟨k0,k1,_⟩:=Bx.cells X0.out
     go_wp2_with fail
     refine HCK.out.mono ?_
     rintro e w2 ⟨rfl,hb2⟩
     have Y0:=jK X0 hb2; have Y1:=jK X1 hb2; have HB2:=jS HB hb2
     clear hb2 X0 X1 k0 k1 HCK
     have hg0:g = 0:=hgz
     subst hg0
     obtain ⟨j0,j1,j2,j3,j4,_⟩:=jb_cells Y1.out
     go_wp2_with fail
     clear j0 j1 j2 j3 j4
     refine (prog_2 st so dm ep _).mono ?_
     rintro e w3 ⟨rfl,hb3⟩
     have Z0:=jK Y0 hb3; have Z1:=jK Y1 hb3; have HB3:=jS HB2 hb3
     clear hb3 Y0 Y1
     obtain ⟨_,j1,_,_,_,_⟩:=jb_cells Z1.out
     obtain ⟨k0,k1,_⟩:=Bx.cells Z0.out
     go_wp2
     all_goals (go_ret; exact ⟨Fx.ret_int (by unfold chkJ; rw [HG.out,if_pos rfl,HJ.out]; simp [*]; try omega),HB3.out⟩)
   ·have hl:=look_mayBe_2 st so dm ep
    obtain ⟨W1,hW1⟩:∃ W1,W1 = (w.alloc (.cells #[.int .i64 V,.slice A L.length c] 24)).alloc (.cells #[.int .u8 2,.int .i64 st,.int .i64 so,.int .i64 dm,.int .i64 ep] 40):=⟨_,rfl⟩
    have hal:=al2 w (.cells #[.int .i64 V,.slice A L.length c] 24) (.cells #[.int .u8 2,.int .i64 st,.int .i64 so,.int .i64 dm,.int .i64 ep] 40)
    rw [<- hW1] at hal
    obtain ⟨b0,e0⟩:∃ b0,b0 = w.heap.size:=⟨_,rfl⟩
    obtain ⟨b1,e1⟩:∃ b1,b1 = w.heap.size + 1:=⟨_,rfl⟩
    obtain ⟨x0,x1,hb⟩:=hal
    rw [<- e0] at x0; rw [<- e1] at x1
    have X0:=jH x0; have X1:=jH x1; have HB:=jH hb
    have HCK:=jH (check_any V A c L W1 (hL.below hb) hm)
    obtain ⟨g,hg⟩:∃ g,chk V L = g:=⟨_,rfl⟩
    rw [hg] at HCK hgz
    have HG:=jH hg
    obtain ⟨n,hn⟩:∃ n,n = L.length:=⟨_,rfl⟩
    rw [<- hn] at HCK X0 hW1 ⊢
    clear x0 x1 hb hg hn hL hm
    go_enter Tryz.func16,Tryz.ntmps16
    go_upto_region 1 with fail
    rw [<- hW1]
    rw [show w.heap.size + 1 = b1 from e1.symm,show w.heap.size = b0 from e0.symm]
    clear hW1 e0 e1
    obtain ⟨k0,k1,_⟩:=Bx.cells X0.out
    go_wp2_with fail
    refine HCK.out.mono ?_
    rintro e w2 ⟨rfl,hb2⟩
    have Y0:=jK X0 hb2; have Y1:=jK X1 hb2; have HB2:=jS HB hb2
    clear hb2 X0 X1 k0 k1 HCK
    have hg0:g = 0:=hgz
    subst hg0
    obtain ⟨j0,j1,j2,j3,j4,_⟩:=jb_cells Y1.out
    go_wp2_with fail
    clear j0 j1 j2 j3 j4
    refine (prog_2 st so dm ep _).mono ?_
    rintro e w3 ⟨rfl,hb3⟩
    have Z0:=jK Y0 hb3; have Z1:=jK Y1 hb3; have HB3:=jS HB2 hb3
    clear hb3 Y0 Y1
    obtain ⟨_,j1,_,_,_,_⟩:=jb_cells Z1.out
    obtain ⟨k0,k1,_⟩:=Bx.cells Z0.out
    go_wp2
    all_goals (go_ret; exact ⟨Fx.ret_int (by unfold chkJ; rw [HG.out,if_pos rfl,HJ.out]; simp [*]; try omega),HB3.out⟩)
  by_cases h3:k = 3
  ·subst h3
   have hJ:jobOk 3 st so dm ep V = (decide (0 <= st) && decide (st <= 2000) && (decide (0 <= so) && decide (so < V) && decide (dm = 0) && decide (ep = 0))):=by unfold jobOk; simp
   obtain ⟨q,hq⟩:∃ q,(decide (0 <= so) && decide (so < V) && decide (dm = 0) && decide (ep = 0)) = q:=⟨_,rfl⟩
   rw [hq] at hJ
   have HJ:=jH hJ
   have c1:=fun W => may_distances 3 st so dm ep V W
   rw [hq] at c1
   have C1:=jH c1
   clear hJ hq c1
   by_cases s0:0 <= st
   ·by_cases s1:st <= 2000
    ·cases q
     ·have hl:=look_mayBe_3 st so dm ep
      obtain ⟨W1,hW1⟩:∃ W1,W1 = (w.alloc (.cells #[.int .i64 V,.slice A L.length c] 24)).alloc (.cells #[.int .u8 3,.int .i64 st,.int .i64 so,.int .i64 dm,.int .i64 ep] 40):=⟨_,rfl⟩
      have hal:=al2 w (.cells #[.int .i64 V,.slice A L.length c] 24) (.cells #[.int .u8 3,.int .i64 st,.int .i64 so,.int .i64 dm,.int .i64 ep] 40)
      rw [<- hW1] at hal
      obtain ⟨b0,e0⟩:∃ b0,b0 = w.heap.size:=⟨_,rfl⟩
      obtain ⟨b1,e1⟩:∃ b1,b1 = w.heap.size + 1:=⟨_,rfl⟩
      obtain ⟨x0,x1,hb⟩:=hal
      rw [<- e0] at x0; rw [<- e1] at x1
      have X0:=jH x0; have X1:=jH x1; have HB:=jH hb
      have HCK:=jH (check_any V A c L W1 (hL.below hb) hm)
      obtain ⟨g,hg⟩:∃ g,chk V L = g:=⟨_,rfl⟩
      rw [hg] at HCK hgz
      have HG:=jH hg
      obtain ⟨n,hn⟩:∃ n,n = L.length:=⟨_,rfl⟩
      rw [<- hn] at HCK X0 hW1 ⊢
      clear x0 x1 hb hg hn hL hm
      go_enter Tryz.func16,Tryz.ntmps16
      go_upto_region 1 with fail
      rw [<- hW1]
      rw [show w.heap.size + 1 = b1 from e1.symm,show w.heap.size = b0 from e0.symm]
      clear hW1 e0 e1
      obtain ⟨k0,k1,_⟩:=Bx.cells X0.out
      go_wp2_with fail
      refine HCK.out.mono ?_
      rintro e w2 ⟨rfl,hb2⟩
      have Y0:=jK X0 hb2; have Y1:=jK X1 hb2; have HB2:=jS HB hb2
      clear hb2 X0 X1 k0 k1 HCK
      have hg0:g = 0:=hgz
      subst hg0
      obtain ⟨j0,j1,j2,j3,j4,_⟩:=jb_cells Y1.out
      go_wp2_with fail
      clear j0 j1 j2 j3 j4
      refine (prog_3 st so dm ep _).mono ?_
      rintro e w3 ⟨rfl,hb3⟩
      have Z0:=jK Y0 hb3; have Z1:=jK Y1 hb3; have HB3:=jS HB2 hb3
      clear hb3 Y0 Y1
      obtain ⟨_,j1,_,_,_,_⟩:=jb_cells Z1.out
      obtain ⟨k0,k1,_⟩:=Bx.cells Z0.out
      go_wp2_with fail
      refine (C1.out _).mono ?_
      rintro e w4 ⟨rfl,hb4⟩
      have HB4:=jS HB3 hb4
      clear hb4 j1 k0 k1
      go_wp2
      all_goals (go_ret; exact ⟨Fx.ret_int (by unfold chkJ; rw [HG.out,if_pos rfl,HJ.out]; simp [*]),HB4.out⟩)
     ·have hl:=look_mayBe_3 st so dm ep
      obtain ⟨W1,hW1⟩:∃ W1,W1 = (w.alloc (.cells #[.int .i64 V,.slice A L.length c] 24)).alloc (.cells #[.int .u8 3,.int .i64 st,.int .i64 so,.int .i64 dm,.int .i64 ep] 40):=⟨_,rfl⟩
      have hal:=al2 w (.cells #[.int .i64 V,.slice A L.length c] 24) (.cells #[.int .u8 3,.int .i64 st,.int .i64 so,.int .i64 dm,.int .i64 ep] 40)
      rw [<- hW1] at hal
      obtain ⟨b0,e0⟩:∃ b0,b0 = w.heap.size:=⟨_,rfl⟩
      obtain ⟨b1,e1⟩:∃ b1,b1 = w.heap.size + 1:=⟨_,rfl⟩
      obtain ⟨x0,x1,hb⟩:=hal
      rw [<- e0] at x0; rw [<- e1] at x1
      have X0:=jH x0; have X1:=jH x1; have HB:=jH hb
      have HCK:=jH (check_any V A c L W1 (hL.below hb) hm)
      obtain ⟨g,hg⟩:∃ g,chk V L = g:=⟨_,rfl⟩
      rw [hg] at HCK hgz
      have HG:=jH hg
      obtain ⟨n,hn⟩:∃ n,n = L.length:=⟨_,rfl⟩
      rw [<- hn] at HCK X0 hW1 ⊢
      clear x0 x1 hb hg hn hL hm
      go_enter Tryz.func16,Tryz.ntmps16
      go_upto_region 1 with fail
      rw [<- hW1]
      rw [show w.heap.size + 1 = b1 from e1.symm,show w.heap.size = b0 from e0.symm]
      clear hW1 e0 e1
      obtain ⟨k0,k1,_⟩:=Bx.cells X0.out
      go_wp2_with fail
      refine HCK.out.mono ?_
      rintro e w2 ⟨rfl,hb2⟩
      have Y0:=jK X0 hb2; have Y1:=jK X1 hb2; have HB2:=jS HB hb2
      clear hb2 X0 X1 k0 k1 HCK
      have hg0:g = 0:=hgz
      subst hg0
      obtain ⟨j0,j1,j2,j3,j4,_⟩:=jb_cells Y1.out
      go_wp2_with fail
      clear j0 j1 j2 j3 j4
      refine (prog_3 st so dm ep _).mono ?_
      rintro e w3 ⟨rfl,hb3⟩
      have Z0:=jK Y0 hb3; have Z1:=jK Y1 hb3; have HB3:=jS HB2 hb3
      clear hb3 Y0 Y1
      obtain ⟨_,j1,_,_,_,_⟩:=jb_cells Z1.out
      obtain ⟨k0,k1,_⟩:=Bx.cells Z0.out
      go_wp2_with fail
      refine (C1.out _).mono ?_
      rintro e w4 ⟨rfl,hb4⟩
      have HB4:=jS HB3 hb4
      clear hb4 j1 k0 k1
      go_wp2
      all_goals (go_ret; exact ⟨Fx.ret_int (by unfold chkJ; rw [HG.out,if_pos rfl,HJ.out]; simp [*]),HB4.out⟩)
    ·have hl:=look_mayBe_3 st so dm ep
     obtain ⟨W1,hW1⟩:∃ W1,W1 = (w.alloc (.cells #[.int .i64 V,.slice A L.length c] 24)).alloc (.cells #[.int .u8 3,.int .i64 st,.int .i64 so,.int .i64 dm,.int .i64 ep] 40):=⟨_,rfl⟩
     have hal:=al2 w (.cells #[.int .i64 V,.slice A L.length c] 24) (.cells #[.int .u8 3,.int .i64 st,.int .i64 so,.int .i64 dm,.int .i64 ep] 40)
     rw [<- hW1] at hal
     obtain ⟨b0,e0⟩:∃ b0,b0 = w.heap.size:=⟨_,rfl⟩
     obtain ⟨b1,e1⟩:∃ b1,b1 = w.heap.size + 1:=⟨_,rfl⟩
     obtain ⟨x0,x1,hb⟩:=hal
     rw [<- e0] at x0; rw [<- e1] at x1
     have X0:=jH x0; have X1:=jH x1; have HB:=jH hb
     have HCK:=jH (check_any V A c L W1 (hL.below hb) hm)
     obtain ⟨g,hg⟩:∃ g,chk V L = g:=⟨_,rfl⟩
     rw [hg] at HCK hgz
     have HG:=jH hg
     obtain ⟨n,hn⟩:∃ n,n = L.length:=⟨_,rfl⟩
     rw [<- hn] at HCK X0 hW1 ⊢
     clear x0 x1 hb hg hn hL hm
     go_enter Tryz.func16,Tryz.ntmps16
     go_upto_region 1 with fail
     rw [<- hW1]
     rw [show w.heap.size + 1 = b1 from e1.symm,show w.heap.size = b0 from e0.symm]
     clear hW1 e0 e1
     obtain ⟨k0,k1,_⟩:=Bx.cells X0.out
     go_wp2_with fail
     refine HCK.out.mono ?_
     rintro e w2 ⟨rfl,hb2⟩
     have Y0:=jK X0 hb2; have Y1:=jK X1 hb2; have HB2:=jS HB hb2
     clear hb2 X0 X1 k0 k1 HCK
     have hg0:g = 0:=hgz
     subst hg0
     obtain ⟨j0,j1,j2,j3,j4,_⟩:=jb_cells Y1.out
     go_wp2_with fail
     clear j0 j1 j2 j3 j4
     refine (prog_3 st so dm ep _).mono ?_
     rintro e w3 ⟨rfl,hb3⟩
     have Z0:=jK Y0 hb3; have Z1:=jK Y1 hb3; have HB3:=jS HB2 hb3
     clear hb3 Y0 Y1
     obtain ⟨_,j1,_,_,_,_⟩:=jb_cells Z1.out
     obtain ⟨k0,k1,_⟩:=Bx.cells Z0.out
     go_wp2
     all_goals (go_ret; exact ⟨Fx.ret_int (by unfold chkJ; rw [HG.out,if_pos rfl,HJ.out]; simp [*]; try omega),HB3.out⟩)
   ·have hl:=look_mayBe_3 st so dm ep
    obtain ⟨W1,hW1⟩:∃ W1,W1 = (w.alloc (.cells #[.int .i64 V,.slice A L.length c] 24)).alloc (.cells #[.int .u8 3,.int .i64 st,.int .i64 so,.int .i64 dm,.int .i64 ep] 40):=⟨_,rfl⟩
    have hal:=al2 w (.cells #[.int .i64 V,.slice A L.length c] 24) (.cells #[.int .u8 3,.int .i64 st,.int .i64 so,.int .i64 dm,.int .i64 ep] 40)
    rw [<- hW1] at hal
    obtain ⟨b0,e0⟩:∃ b0,b0 = w.heap.size:=⟨_,rfl⟩
    obtain ⟨b1,e1⟩:∃ b1,b1 = w.heap.size + 1:=⟨_,rfl⟩
    obtain ⟨x0,x1,hb⟩:=hal
    rw [<- e0] at x0; rw [<- e1] at x1
    have X0:=jH x0; have X1:=jH x1; have HB:=jH hb
    have HCK:=jH (check_any V A c L W1 (hL.below hb) hm)
    obtain ⟨g,hg⟩:∃ g,chk V L = g:=⟨_,rfl⟩
    rw [hg] at HCK hgz
    have HG:=jH hg
    obtain ⟨n,hn⟩:∃ n,n = L.length:=⟨_,rfl⟩
    rw [<- hn] at HCK X0 hW1 ⊢
    clear x0 x1 hb hg hn hL hm
    go_enter Tryz.func16,Tryz.ntmps16
    go_upto_region 1 with fail
    rw [<- hW1]
    rw [show w.heap.size + 1 = b1 from e1.symm,show w.heap.size = b0 from e0.symm]
    clear hW1 e0 e1
    obtain ⟨k0,k1,_⟩:=Bx.cells X0.out
    go_wp2_with fail
    refine HCK.out.mono ?_
    rintro e w2 ⟨rfl,hb2⟩
    have Y0:=jK X0 hb2; have Y1:=jK X1 hb2; have HB2:=jS HB hb2
    clear hb2 X0 X1 k0 k1 HCK
    have hg0:g = 0:=hgz
    subst hg0
    obtain ⟨j0,j1,j2,j3,j4,_⟩:=jb_cells Y1.out
    go_wp2_with fail
    clear j0 j1 j2 j3 j4
    refine (prog_3 st so dm ep _).mono ?_
    rintro e w3 ⟨rfl,hb3⟩
    have Z0:=jK Y0 hb3; have Z1:=jK Y1 hb3; have HB3:=jS HB2 hb3
    clear hb3 Y0 Y1
    obtain ⟨_,j1,_,_,_,_⟩:=jb_cells Z1.out
    obtain ⟨k0,k1,_⟩:=Bx.cells Z0.out
    go_wp2
    all_goals (go_ret; exact ⟨Fx.ret_int (by unfold chkJ; rw [HG.out,if_pos rfl,HJ.out]; simp [*]; try omega),HB3.out⟩)
  obtain ⟨W1,hW1⟩:∃ W1,W1 = (w.alloc (.cells #[.int .i64 V,.slice A L.length c] 24)).alloc (.cells #[.int .u8 k,.int .i64 st,.int .i64 so,.int .i64 dm,.int .i64 ep] 40):=⟨_,rfl⟩
  have hal:=al2 w (.cells #[.int .i64 V,.slice A L.length c] 24) (.cells #[.int .u8 k,.int .i64 st,.int .i64 so,.int .i64 dm,.int .i64 ep] 40)
  rw [<- hW1] at hal
  obtain ⟨b0,e0⟩:∃ b0,b0 = w.heap.size:=⟨_,rfl⟩
  obtain ⟨b1,e1⟩:∃ b1,b1 = w.heap.size + 1:=⟨_,rfl⟩
  obtain ⟨x0,x1,hb⟩:=hal
  rw [<- e0] at x0; rw [<- e1] at x1
  have X0:=jH x0; have X1:=jH x1; have HB:=jH hb
  have HCK:=jH (check_any V A c L W1 (hL.below hb) hm)
  obtain ⟨g,hg⟩:∃ g,chk V L = g:=⟨_,rfl⟩
  rw [hg] at HCK hgz
  have HG:=jH hg
  obtain ⟨n,hn⟩:∃ n,n = L.length:=⟨_,rfl⟩
  rw [<- hn] at HCK X0 hW1 ⊢
  clear x0 x1 hb hg hn hL hm
  go_enter Tryz.func16,Tryz.ntmps16
  go_upto_region 1 with fail
  rw [<- hW1]
  rw [show w.heap.size + 1 = b1 from e1.symm,show w.heap.size = b0 from e0.symm]
  clear hW1 e0 e1
  obtain ⟨k0,k1,_⟩:=Bx.cells X0.out
  go_wp2_with fail
  refine HCK.out.mono ?_
  rintro e w2 ⟨rfl,hb2⟩
  have Y0:=jK X0 hb2; have Y1:=jK X1 hb2; have HB2:=jS HB hb2
  clear hb2 X0 X1 k0 k1 HCK
  have hg0:g = 0:=hgz
  subst hg0
  obtain ⟨j0,j1,j2,j3,j4,_⟩:=jb_cells Y1.out
  go_wp2_with fail
  clear j0 j1 j2 j3 j4
  refine (prog_no k st so dm ep h1 h2 h3 _).mono ?_
  rintro e w3 ⟨rfl,hb3⟩
  have Z0:=jK Y0 hb3; have Z1:=jK Y1 hb3; have HB3:=jS HB2 hb3
  clear hb3 Y0 Y1
  obtain ⟨_,j1,_,_,_,_⟩:=jb_cells Z1.out
  obtain ⟨k0,k1,_⟩:=Bx.cells Z0.out
  go_wp2
  all_goals (go_ret; exact ⟨Fx.ret_int (by unfold chkJ jobOk; rw [HG.out,if_pos rfl,if_neg h1,if_neg h2,if_neg h3]; simp),HB3.out⟩)
 ·obtain ⟨W1,hW1⟩:∃ W1,W1 = (w.alloc (.cells #[.int .i64 V,.slice A L.length c] 24)).alloc (.cells #[.int .u8 k,.int .i64 st,.int .i64 so,.int .i64 dm,.int .i64 ep] 40):=⟨_,rfl⟩
  have hal:=al2 w (.cells #[.int .i64 V,.slice A L.length c] 24) (.cells #[.int .u8 k,.int .i64 st,.int .i64 so,.int .i64 dm,.int .i64 ep] 40)
  rw [<- hW1] at hal
  obtain ⟨b0,e0⟩:∃ b0,b0 = w.heap.size:=⟨_,rfl⟩
  obtain ⟨b1,e1⟩:∃ b1,b1 = w.heap.size + 1:=⟨_,rfl⟩
  obtain ⟨x0,x1,hb⟩:=hal
  rw [<- e0] at x0; rw [<- e1] at x1
  have X0:=jH x0; have X1:=jH x1; have HB:=jH hb
  have HCK:=jH (check_any V A c L W1 (hL.below hb) hm)
  obtain ⟨g,hg⟩:∃ g,chk V L = g:=⟨_,rfl⟩
  rw [hg] at HCK hgz
  have HG:=jH hg
  obtain ⟨n,hn⟩:∃ n,n = L.length:=⟨_,rfl⟩
  rw [<- hn] at HCK X0 hW1 ⊢
  clear x0 x1 hb hg hn hL hm
  go_enter Tryz.func16,Tryz.ntmps16
  go_upto_region 1 with fail
  rw [<- hW1]
  rw [show w.heap.size + 1 = b1 from e1.symm,show w.heap.size = b0 from e0.symm]
  clear hW1 e0 e1
  obtain ⟨k0,k1,_⟩:=Bx.cells X0.out
  go_wp2_with fail
  refine HCK.out.mono ?_
  rintro e w2 ⟨rfl,hb2⟩
  have Y0:=jK X0 hb2; have Y1:=jK X1 hb2; have HB2:=jS HB hb2
  clear hb2 X0 X1 k0 k1 HCK
  have hg0:¬ g = 0:=hgz
  go_wp2
  go_ret
  exact ⟨Fx.ret_int (by unfold chkJ; rw [HG.out,if_neg hgz]),HB2.out⟩
end Go.Proofs.YtdcaekmgfcpbmaaGreat.Al
