/-
  What is proved here: contracts of algos.Check of the document. Conditions: numbers fit an int.
-/
import Derived.Test.YtdcaekmgfcpbmaaGreatQdAlP5
import Derived.Test.YtdcaekmgfcpbmaaGreatQdPtG6x
namespace Go.Proofs.YtdcaekmgfcpbmaaGreat.Al
open Go.RowKit Gr Wd Ws Fx Rk Lb
set_option maxRecDepth 100000 in
set_option maxHeartbeats 4000000 in
theorem rchk_1 (st so dm ep V:Int) (A:Option Addr) (c:Nat) (L:List Ed) (w:World) (hL:EAt w A L) (hm:L.length <= 9223372036854775807) (hgz:chk V L = 0) :
 Calls Tryz.prog 65 #[.agg #[.int .i64 V,.slice A L.length c],.agg #[.int .u8 1,.int .i64 st,.int .i64 so,.int .i64 dm,.int .i64 ep]] w fun e w' => e = .returned (.int .i64 (chkJ 1 st so dm ep V L))/\Below w.heap.size w w':=by
 by_cases s0:0 <= st
 ·skip
  by_cases s1:st <= 2000
  ·skip
   by_cases s2:0 <= dm
   ·skip
    by_cases s3:dm <= 4294967296
    ·skip
     by_cases s4:0 <= ep
     ·skip
      by_cases s5:ep <= 4294967296
      ·skip
       by_cases s6:so = 0
       ·have S6:=jH s6
        clear s6
        obtain ⟨W1,hW1⟩:∃ W1,W1 = (w.alloc (.cells #[.int .i64 V,.slice A L.length c] 24)).alloc (.cells #[.int .u8 1,.int .i64 st,.int .i64 so,.int .i64 dm,.int .i64 ep] 40):=⟨_,rfl⟩
        have hal:=al2 w (.cells #[.int .i64 V,.slice A L.length c] 24) (.cells #[.int .u8 1,.int .i64 st,.int .i64 so,.int .i64 dm,.int .i64 ep] 40)
        rw [<- hW1] at hal
        obtain ⟨b0,e0⟩:∃ b0,b0 = w.heap.size:=⟨_,rfl⟩
        obtain ⟨b1,e1⟩:∃ b1,b1 = w.heap.size + 1:=⟨_,rfl⟩
        obtain ⟨x0,x1,hb⟩:=hal
        rw [<- e0] at x0; rw [<- e1] at x1
        have X0:=jH x0; have X1:=jH x1; have HB:=jH hb
        have HCK:=jH (rcheck_any V A c L W1 (hL.below hb) hm)
        obtain ⟨g,hg⟩:∃ g,chk V L = g:=⟨_,rfl⟩
        rw [hg] at HCK hgz
        have HG:=jH hg
        obtain ⟨n,hn⟩:∃ n,n = L.length:=⟨_,rfl⟩
        rw [<- hn] at HCK X0 hW1 ⊢
        clear x0 x1 hb hg hn hL hm
        go_enter Tryz.func65,Tryz.ntmps65
        go_upto_region 1 with fail
        rw [<- hW1]
        rw [show w.heap.size + 1 = b1 from e1.symm,show w.heap.size = b0 from e0.symm]
        clear hW1 e0 e1
        obtain ⟨k0,k1,_⟩:=Bx.cells X0.out
        go_wp2_with fail
        refine HCK.out.mono ?_
        rintro e w2 ⟨rfl,hb2⟩
        have Y0:=jK X0 hb2; have Y1:=jK X1 hb2; have HB2:=jS HB hb2
        clear hb2 X0 X1 k0 k1 HCK
        have hg0:g = 0:=hgz
        subst hg0
        have s6:=S6.out
        obtain ⟨_,j1,j2,j3,j4,_⟩:=jb_cells Y1.out
        obtain ⟨j0,_,_,_,_,_⟩:=jb_cells Y1.out
        obtain ⟨k0,k1,_⟩:=Bx.cells Y0.out
        go_wp2
        all_goals (go_ret; exact ⟨Fx.ret_int (by unfold chkJ jobOk; rw [HG.out,if_pos rfl]; first | (simp [*]; done) | (simp [Int.not_le.2 (show st < 0 by omega)]; done) | (simp [Int.not_lt.2 (show V <= so by omega)]; done) | (simp [Int.not_le.2 (show so < 0 by omega)]; done) | (simp [*]; omega) | (simp; omega)),HB2.out⟩)
       ·have q6:(so == 0) = false:=by simp [s6]
        obtain ⟨W1,hW1⟩:∃ W1,W1 = (w.alloc (.cells #[.int .i64 V,.slice A L.length c] 24)).alloc (.cells #[.int .u8 1,.int .i64 st,.int .i64 so,.int .i64 dm,.int .i64 ep] 40):=⟨_,rfl⟩
        have hal:=al2 w (.cells #[.int .i64 V,.slice A L.length c] 24) (.cells #[.int .u8 1,.int .i64 st,.int .i64 so,.int .i64 dm,.int .i64 ep] 40)
        rw [<- hW1] at hal
        obtain ⟨b0,e0⟩:∃ b0,b0 = w.heap.size:=⟨_,rfl⟩
        obtain ⟨b1,e1⟩:∃ b1,b1 = w.heap.size + 1:=⟨_,rfl⟩
        obtain ⟨x0,x1,hb⟩:=hal
        rw [<- e0] at x0; rw [<- e1] at x1
        have X0:=jH x0; have X1:=jH x1; have HB:=jH hb
        have HCK:=jH (rcheck_any V A c L W1 (hL.below hb) hm)
        obtain ⟨g,hg⟩:∃ g,chk V L = g:=⟨_,rfl⟩
        rw [hg] at HCK hgz
        have HG:=jH hg
        obtain ⟨n,hn⟩:∃ n,n = L.length:=⟨_,rfl⟩
        rw [<- hn] at HCK X0 hW1 ⊢
        clear x0 x1 hb hg hn hL hm
        go_enter Tryz.func65,Tryz.ntmps65
        go_upto_region 1 with fail
        rw [<- hW1]
        rw [show w.heap.size + 1 = b1 from e1.symm,show w.heap.size = b0 from e0.symm]
        clear hW1 e0 e1
        obtain ⟨k0,k1,_⟩:=Bx.cells X0.out
        go_wp2_with fail
        refine HCK.out.mono ?_
        rintro e w2 ⟨rfl,hb2⟩
        have Y0:=jK X0 hb2; have Y1:=jK X1 hb2; have HB2:=jS HB hb2
        clear hb2 X0 X1 k0 k1 HCK
        have hg0:g = 0:=hgz
        subst hg0
        obtain ⟨_,j1,j2,j3,j4,_⟩:=jb_cells Y1.out
        obtain ⟨j0,_,_,_,_,_⟩:=jb_cells Y1.out
        obtain ⟨k0,k1,_⟩:=Bx.cells Y0.out
        go_wp2
        all_goals (go_ret; exact ⟨Fx.ret_int (by unfold chkJ jobOk; rw [HG.out,if_pos rfl]; first | (simp [*]; done) | (simp [Int.not_le.2 (show st < 0 by omega)]; done) | (simp [Int.not_lt.2 (show V <= so by omega)]; done) | (simp [Int.not_le.2 (show so < 0 by omega)]; done) | (simp [*]; omega) | (simp; omega)),HB2.out⟩)
      ·obtain ⟨W1,hW1⟩:∃ W1,W1 = (w.alloc (.cells #[.int .i64 V,.slice A L.length c] 24)).alloc (.cells #[.int .u8 1,.int .i64 st,.int .i64 so,.int .i64 dm,.int .i64 ep] 40):=⟨_,rfl⟩
       have hal:=al2 w (.cells #[.int .i64 V,.slice A L.length c] 24) (.cells #[.int .u8 1,.int .i64 st,.int .i64 so,.int .i64 dm,.int .i64 ep] 40)
       rw [<- hW1] at hal
       obtain ⟨b0,e0⟩:∃ b0,b0 = w.heap.size:=⟨_,rfl⟩
       obtain ⟨b1,e1⟩:∃ b1,b1 = w.heap.size + 1:=⟨_,rfl⟩
       obtain ⟨x0,x1,hb⟩:=hal
       rw [<- e0] at x0; rw [<- e1] at x1
       have X0:=jH x0; have X1:=jH x1; have HB:=jH hb
       have HCK:=jH (rcheck_any V A c L W1 (hL.below hb) hm)
       obtain ⟨g,hg⟩:∃ g,chk V L = g:=⟨_,rfl⟩
       rw [hg] at HCK hgz
       have HG:=jH hg
       obtain ⟨n,hn⟩:∃ n,n = L.length:=⟨_,rfl⟩
       rw [<- hn] at HCK X0 hW1 ⊢
       clear x0 x1 hb hg hn hL hm
       go_enter Tryz.func65,Tryz.ntmps65
       go_upto_region 1 with fail
       rw [<- hW1]
       rw [show w.heap.size + 1 = b1 from e1.symm,show w.heap.size = b0 from e0.symm]
       clear hW1 e0 e1
       obtain ⟨k0,k1,_⟩:=Bx.cells X0.out
       go_wp2_with fail
       refine HCK.out.mono ?_
       rintro e w2 ⟨rfl,hb2⟩
       have Y0:=jK X0 hb2; have Y1:=jK X1 hb2; have HB2:=jS HB hb2
       clear hb2 X0 X1 k0 k1 HCK
       have hg0:g = 0:=hgz
       subst hg0
       obtain ⟨_,j1,j2,j3,j4,_⟩:=jb_cells Y1.out
       obtain ⟨j0,_,_,_,_,_⟩:=jb_cells Y1.out
       obtain ⟨k0,k1,_⟩:=Bx.cells Y0.out
       go_wp2
       all_goals (go_ret; exact ⟨Fx.ret_int (by unfold chkJ jobOk; rw [HG.out,if_pos rfl]; first | (simp [*]; done) | (simp [Int.not_le.2 (show st < 0 by omega)]; done) | (simp [Int.not_lt.2 (show V <= so by omega)]; done) | (simp [Int.not_le.2 (show so < 0 by omega)]; done) | (simp [*]; omega) | (simp; omega)),HB2.out⟩)
     ·obtain ⟨W1,hW1⟩:∃ W1,W1 = (w.alloc (.cells #[.int .i64 V,.slice A L.length c] 24)).alloc (.cells #[.int .u8 1,.int .i64 st,.int .i64 so,.int .i64 dm,.int .i64 ep] 40):=⟨_,rfl⟩
      have hal:=al2 w (.cells #[.int .i64 V,.slice A L.length c] 24) (.cells #[.int .u8 1,.int .i64 st,.int .i64 so,.int .i64 dm,.int .i64 ep] 40)
      rw [<- hW1] at hal
      obtain ⟨b0,e0⟩:∃ b0,b0 = w.heap.size:=⟨_,rfl⟩
      obtain ⟨b1,e1⟩:∃ b1,b1 = w.heap.size + 1:=⟨_,rfl⟩
      obtain ⟨x0,x1,hb⟩:=hal
      rw [<- e0] at x0; rw [<- e1] at x1
      have X0:=jH x0; have X1:=jH x1; have HB:=jH hb
      have HCK:=jH (rcheck_any V A c L W1 (hL.below hb) hm)
      obtain ⟨g,hg⟩:∃ g,chk V L = g:=⟨_,rfl⟩
      rw [hg] at HCK hgz
      have HG:=jH hg
      obtain ⟨n,hn⟩:∃ n,n = L.length:=⟨_,rfl⟩
      rw [<- hn] at HCK X0 hW1 ⊢
      clear x0 x1 hb hg hn hL hm
      go_enter Tryz.func65,Tryz.ntmps65
      go_upto_region 1 with fail
      rw [<- hW1]
      rw [show w.heap.size + 1 = b1 from e1.symm,show w.heap.size = b0 from e0.symm]
      clear hW1 e0 e1
      obtain ⟨k0,k1,_⟩:=Bx.cells X0.out
      go_wp2_with fail
      refine HCK.out.mono ?_
      rintro e w2 ⟨rfl,hb2⟩
      have Y0:=jK X0 hb2; have Y1:=jK X1 hb2; have HB2:=jS HB hb2
      clear hb2 X0 X1 k0 k1 HCK
      have hg0:g = 0:=hgz
      subst hg0
      obtain ⟨_,j1,j2,j3,j4,_⟩:=jb_cells Y1.out
      obtain ⟨j0,_,_,_,_,_⟩:=jb_cells Y1.out
      obtain ⟨k0,k1,_⟩:=Bx.cells Y0.out
      go_wp2
      all_goals (go_ret; exact ⟨Fx.ret_int (by unfold chkJ jobOk; rw [HG.out,if_pos rfl]; first | (simp [*]; done) | (simp [Int.not_le.2 (show st < 0 by omega)]; done) | (simp [Int.not_lt.2 (show V <= so by omega)]; done) | (simp [Int.not_le.2 (show so < 0 by omega)]; done) | (simp [*]; omega) | (simp; omega)),HB2.out⟩)
    ·obtain ⟨W1,hW1⟩:∃ W1,W1 = (w.alloc (.cells #[.int .i64 V,.slice A L.length c] 24)).alloc (.cells #[.int .u8 1,.int .i64 st,.int .i64 so,.int .i64 dm,.int .i64 ep] 40):=⟨_,rfl⟩
     have hal:=al2 w (.cells #[.int .i64 V,.slice A L.length c] 24) (.cells #[.int .u8 1,.int .i64 st,.int .i64 so,.int .i64 dm,.int .i64 ep] 40)
     rw [<- hW1] at hal
     obtain ⟨b0,e0⟩:∃ b0,b0 = w.heap.size:=⟨_,rfl⟩
     obtain ⟨b1,e1⟩:∃ b1,b1 = w.heap.size + 1:=⟨_,rfl⟩
     obtain ⟨x0,x1,hb⟩:=hal
     rw [<- e0] at x0; rw [<- e1] at x1
     have X0:=jH x0; have X1:=jH x1; have HB:=jH hb
     have HCK:=jH (rcheck_any V A c L W1 (hL.below hb) hm)
     obtain ⟨g,hg⟩:∃ g,chk V L = g:=⟨_,rfl⟩
     rw [hg] at HCK hgz
     have HG:=jH hg
     obtain ⟨n,hn⟩:∃ n,n = L.length:=⟨_,rfl⟩
     rw [<- hn] at HCK X0 hW1 ⊢
     clear x0 x1 hb hg hn hL hm
     go_enter Tryz.func65,Tryz.ntmps65
     go_upto_region 1 with fail
     rw [<- hW1]
     rw [show w.heap.size + 1 = b1 from e1.symm,show w.heap.size = b0 from e0.symm]
     clear hW1 e0 e1
     obtain ⟨k0,k1,_⟩:=Bx.cells X0.out
     go_wp2_with fail
     refine HCK.out.mono ?_
     rintro e w2 ⟨rfl,hb2⟩
     have Y0:=jK X0 hb2; have Y1:=jK X1 hb2; have HB2:=jS HB hb2
     clear hb2 X0 X1 k0 k1 HCK
     have hg0:g = 0:=hgz
     subst hg0
     obtain ⟨_,j1,j2,j3,j4,_⟩:=jb_cells Y1.out
     obtain ⟨j0,_,_,_,_,_⟩:=jb_cells Y1.out
     obtain ⟨k0,k1,_⟩:=Bx.cells Y0.out
     go_wp2
     all_goals (go_ret; exact ⟨Fx.ret_int (by unfold chkJ jobOk; rw [HG.out,if_pos rfl]; first | (simp [*]; done) | (simp [Int.not_le.2 (show st < 0 by omega)]; done) | (simp [Int.not_lt.2 (show V <= so by omega)]; done) | (simp [Int.not_le.2 (show so < 0 by omega)]; done) | (simp [*]; omega) | (simp; omega)),HB2.out⟩)
   ·obtain ⟨W1,hW1⟩:∃ W1,W1 = (w.alloc (.cells #[.int .i64 V,.slice A L.length c] 24)).alloc (.cells #[.int .u8 1,.int .i64 st,.int .i64 so,.int .i64 dm,.int .i64 ep] 40):=⟨_,rfl⟩
    have hal:=al2 w (.cells #[.int .i64 V,.slice A L.length c] 24) (.cells #[.int .u8 1,.int .i64 st,.int .i64 so,.int .i64 dm,.int .i64 ep] 40)
    rw [<- hW1] at hal
    obtain ⟨b0,e0⟩:∃ b0,b0 = w.heap.size:=⟨_,rfl⟩
    obtain ⟨b1,e1⟩:∃ b1,b1 = w.heap.size + 1:=⟨_,rfl⟩
    obtain ⟨x0,x1,hb⟩:=hal
    rw [<- e0] at x0; rw [<- e1] at x1
    have X0:=jH x0; have X1:=jH x1; have HB:=jH hb
    have HCK:=jH (rcheck_any V A c L W1 (hL.below hb) hm)
    obtain ⟨g,hg⟩:∃ g,chk V L = g:=⟨_,rfl⟩
    rw [hg] at HCK hgz
    have HG:=jH hg
    obtain ⟨n,hn⟩:∃ n,n = L.length:=⟨_,rfl⟩
    rw [<- hn] at HCK X0 hW1 ⊢
    clear x0 x1 hb hg hn hL hm
    go_enter Tryz.func65,Tryz.ntmps65
    go_upto_region 1 with fail
    rw [<- hW1]
    rw [show w.heap.size + 1 = b1 from e1.symm,show w.heap.size = b0 from e0.symm]
    clear hW1 e0 e1
    obtain ⟨k0,k1,_⟩:=Bx.cells X0.out
    go_wp2_with fail
    refine HCK.out.mono ?_
    rintro e w2 ⟨rfl,hb2⟩
    have Y0:=jK X0 hb2; have Y1:=jK X1 hb2; have HB2:=jS HB hb2
    clear hb2 X0 X1 k0 k1 HCK
    have hg0:g = 0:=hgz
    subst hg0
    obtain ⟨_,j1,j2,j3,j4,_⟩:=jb_cells Y1.out
    obtain ⟨j0,_,_,_,_,_⟩:=jb_cells Y1.out
    obtain ⟨k0,k1,_⟩:=Bx.cells Y0.out
    go_wp2
    all_goals (go_ret; exact ⟨Fx.ret_int (by unfold chkJ jobOk; rw [HG.out,if_pos rfl]; first | (simp [*]; done) | (simp [Int.not_le.2 (show st < 0 by omega)]; done) | (simp [Int.not_lt.2 (show V <= so by omega)]; done) | (simp [Int.not_le.2 (show so < 0 by omega)]; done) | (simp [*]; omega) | (simp; omega)),HB2.out⟩)
  ·obtain ⟨W1,hW1⟩:∃ W1,W1 = (w.alloc (.cells #[.int .i64 V,.slice A L.length c] 24)).alloc (.cells #[.int .u8 1,.int .i64 st,.int .i64 so,.int .i64 dm,.int .i64 ep] 40):=⟨_,rfl⟩
   have hal:=al2 w (.cells #[.int .i64 V,.slice A L.length c] 24) (.cells #[.int .u8 1,.int .i64 st,.int .i64 so,.int .i64 dm,.int .i64 ep] 40)
   rw [<- hW1] at hal
   obtain ⟨b0,e0⟩:∃ b0,b0 = w.heap.size:=⟨_,rfl⟩
   obtain ⟨b1,e1⟩:∃ b1,b1 = w.heap.size + 1:=⟨_,rfl⟩
   obtain ⟨x0,x1,hb⟩:=hal
   rw [<- e0] at x0; rw [<- e1] at x1
   have X0:=jH x0; have X1:=jH x1; have HB:=jH hb
   have HCK:=jH (rcheck_any V A c L W1 (hL.below hb) hm)
   obtain ⟨g,hg⟩:∃ g,chk V L = g:=⟨_,rfl⟩
   rw [hg] at HCK hgz
   have HG:=jH hg
   obtain ⟨n,hn⟩:∃ n,n = L.length:=⟨_,rfl⟩
   rw [<- hn] at HCK X0 hW1 ⊢
   clear x0 x1 hb hg hn hL hm
   go_enter Tryz.func65,Tryz.ntmps65
   go_upto_region 1 with fail
   rw [<- hW1]
   rw [show w.heap.size + 1 = b1 from e1.symm,show w.heap.size = b0 from e0.symm]
   clear hW1 e0 e1
   obtain ⟨k0,k1,_⟩:=Bx.cells X0.out
   go_wp2_with fail
   refine HCK.out.mono ?_
   rintro e w2 ⟨rfl,hb2⟩
   have Y0:=jK X0 hb2; have Y1:=jK X1 hb2; have HB2:=jS HB hb2
   clear hb2 X0 X1 k0 k1 HCK
   have hg0:g = 0:=hgz
   subst hg0
   obtain ⟨_,j1,j2,j3,j4,_⟩:=jb_cells Y1.out
   obtain ⟨j0,_,_,_,_,_⟩:=jb_cells Y1.out
   obtain ⟨k0,k1,_⟩:=Bx.cells Y0.out
   go_wp2
   all_goals (go_ret; exact ⟨Fx.ret_int (by unfold chkJ jobOk; rw [HG.out,if_pos rfl]; first | (simp [*]; done) | (simp [Int.not_le.2 (show st < 0 by omega)]; done) | (simp [Int.not_lt.2 (show V <= so by omega)]; done) | (simp [Int.not_le.2 (show so < 0 by omega)]; done) | (simp [*]; omega) | (simp; omega)),HB2.out⟩)
 ·obtain ⟨W1,hW1⟩:∃ W1,W1 = (w.alloc (.cells #[.int .i64 V,.slice A L.length c] 24)).alloc (.cells #[.int .u8 1,.int .i64 st,.int .i64 so,.int .i64 dm,.int .i64 ep] 40):=⟨_,rfl⟩
  have hal:=al2 w (.cells #[.int .i64 V,.slice A L.length c] 24) (.cells #[.int .u8 1,.int .i64 st,.int .i64 so,.int .i64 dm,.int .i64 ep] 40)
  rw [<- hW1] at hal
  obtain ⟨b0,e0⟩:∃ b0,b0 = w.heap.size:=⟨_,rfl⟩
  obtain ⟨b1,e1⟩:∃ b1,b1 = w.heap.size + 1:=⟨_,rfl⟩
  obtain ⟨x0,x1,hb⟩:=hal
  rw [<- e0] at x0; rw [<- e1] at x1
  have X0:=jH x0; have X1:=jH x1; have HB:=jH hb
  have HCK:=jH (rcheck_any V A c L W1 (hL.below hb) hm)
  obtain ⟨g,hg⟩:∃ g,chk V L = g:=⟨_,rfl⟩
  rw [hg] at HCK hgz
  have HG:=jH hg
  obtain ⟨n,hn⟩:∃ n,n = L.length:=⟨_,rfl⟩
  rw [<- hn] at HCK X0 hW1 ⊢
  clear x0 x1 hb hg hn hL hm
  go_enter Tryz.func65,Tryz.ntmps65
  go_upto_region 1 with fail
  rw [<- hW1]
  rw [show w.heap.size + 1 = b1 from e1.symm,show w.heap.size = b0 from e0.symm]
  clear hW1 e0 e1
  obtain ⟨k0,k1,_⟩:=Bx.cells X0.out
  go_wp2_with fail
  refine HCK.out.mono ?_
  rintro e w2 ⟨rfl,hb2⟩
  have Y0:=jK X0 hb2; have Y1:=jK X1 hb2; have HB2:=jS HB hb2
  clear hb2 X0 X1 k0 k1 HCK
  have hg0:g = 0:=hgz
  subst hg0
  obtain ⟨_,j1,j2,j3,j4,_⟩:=jb_cells Y1.out
  obtain ⟨j0,_,_,_,_,_⟩:=jb_cells Y1.out
  obtain ⟨k0,k1,_⟩:=Bx.cells Y0.out
  go_wp2
  all_goals (go_ret; exact ⟨Fx.ret_int (by unfold chkJ jobOk; rw [HG.out,if_pos rfl]; first | (simp [*]; done) | (simp [Int.not_le.2 (show st < 0 by omega)]; done) | (simp [Int.not_lt.2 (show V <= so by omega)]; done) | (simp [Int.not_le.2 (show so < 0 by omega)]; done) | (simp [*]; omega) | (simp; omega)),HB2.out⟩)
set_option maxRecDepth 100000 in
set_option maxHeartbeats 4000000 in
theorem rchk_2 (st so dm ep V:Int) (A:Option Addr) (c:Nat) (L:List Ed) (w:World) (hL:EAt w A L) (hm:L.length <= 9223372036854775807) (hgz:chk V L = 0) :
 Calls Tryz.prog 65 #[.agg #[.int .i64 V,.slice A L.length c],.agg #[.int .u8 2,.int .i64 st,.int .i64 so,.int .i64 dm,.int .i64 ep]] w fun e w' => e = .returned (.int .i64 (chkJ 2 st so dm ep V L))/\Below w.heap.size w w':=by
 by_cases s0:0 <= st
 ·skip
  by_cases s1:st <= 2000
  ·skip
   by_cases s2:dm = 0
   ·have S2:=jH s2
    clear s2
    by_cases s3:ep = 0
    ·have S3:=jH s3
     clear s3
     by_cases s4:so = 0
     ·have S4:=jH s4
      clear s4
      obtain ⟨W1,hW1⟩:∃ W1,W1 = (w.alloc (.cells #[.int .i64 V,.slice A L.length c] 24)).alloc (.cells #[.int .u8 2,.int .i64 st,.int .i64 so,.int .i64 dm,.int .i64 ep] 40):=⟨_,rfl⟩
      have hal:=al2 w (.cells #[.int .i64 V,.slice A L.length c] 24) (.cells #[.int .u8 2,.int .i64 st,.int .i64 so,.int .i64 dm,.int .i64 ep] 40)
      rw [<- hW1] at hal
      obtain ⟨b0,e0⟩:∃ b0,b0 = w.heap.size:=⟨_,rfl⟩
      obtain ⟨b1,e1⟩:∃ b1,b1 = w.heap.size + 1:=⟨_,rfl⟩
      obtain ⟨x0,x1,hb⟩:=hal
      rw [<- e0] at x0; rw [<- e1] at x1
      have X0:=jH x0; have X1:=jH x1; have HB:=jH hb
      have HCK:=jH (rcheck_any V A c L W1 (hL.below hb) hm)
      obtain ⟨g,hg⟩:∃ g,chk V L = g:=⟨_,rfl⟩
      rw [hg] at HCK hgz
      have HG:=jH hg
      obtain ⟨n,hn⟩:∃ n,n = L.length:=⟨_,rfl⟩
      rw [<- hn] at HCK X0 hW1 ⊢
      clear x0 x1 hb hg hn hL hm
      go_enter Tryz.func65,Tryz.ntmps65
      go_upto_region 1 with fail
      rw [<- hW1]
      rw [show w.heap.size + 1 = b1 from e1.symm,show w.heap.size = b0 from e0.symm]
      clear hW1 e0 e1
      obtain ⟨k0,k1,_⟩:=Bx.cells X0.out
      go_wp2_with fail
      refine HCK.out.mono ?_
      rintro e w2 ⟨rfl,hb2⟩
      have Y0:=jK X0 hb2; have Y1:=jK X1 hb2; have HB2:=jS HB hb2
      clear hb2 X0 X1 k0 k1 HCK
      have hg0:g = 0:=hgz
      subst hg0
      have s2:=S2.out
      have s3:=S3.out
      have s4:=S4.out
      obtain ⟨_,j1,j2,j3,j4,_⟩:=jb_cells Y1.out
      obtain ⟨j0,_,_,_,_,_⟩:=jb_cells Y1.out
      obtain ⟨k0,k1,_⟩:=Bx.cells Y0.out
      go_wp2
      all_goals (go_ret; exact ⟨Fx.ret_int (by unfold chkJ jobOk; rw [HG.out,if_pos rfl]; first | (simp [*]; done) | (simp [Int.not_le.2 (show st < 0 by omega)]; done) | (simp [Int.not_lt.2 (show V <= so by omega)]; done) | (simp [Int.not_le.2 (show so < 0 by omega)]; done) | (simp [*]; omega) | (simp; omega)),HB2.out⟩)
     ·have q4:(so == 0) = false:=by simp [s4]
      obtain ⟨W1,hW1⟩:∃ W1,W1 = (w.alloc (.cells #[.int .i64 V,.slice A L.length c] 24)).alloc (.cells #[.int .u8 2,.int .i64 st,.int .i64 so,.int .i64 dm,.int .i64 ep] 40):=⟨_,rfl⟩
      have hal:=al2 w (.cells #[.int .i64 V,.slice A L.length c] 24) (.cells #[.int .u8 2,.int .i64 st,.int .i64 so,.int .i64 dm,.int .i64 ep] 40)
      rw [<- hW1] at hal
      obtain ⟨b0,e0⟩:∃ b0,b0 = w.heap.size:=⟨_,rfl⟩
      obtain ⟨b1,e1⟩:∃ b1,b1 = w.heap.size + 1:=⟨_,rfl⟩
      obtain ⟨x0,x1,hb⟩:=hal
      rw [<- e0] at x0; rw [<- e1] at x1
      have X0:=jH x0; have X1:=jH x1; have HB:=jH hb
      have HCK:=jH (rcheck_any V A c L W1 (hL.below hb) hm)
      obtain ⟨g,hg⟩:∃ g,chk V L = g:=⟨_,rfl⟩
      rw [hg] at HCK hgz
      have HG:=jH hg
      obtain ⟨n,hn⟩:∃ n,n = L.length:=⟨_,rfl⟩
      rw [<- hn] at HCK X0 hW1 ⊢
      clear x0 x1 hb hg hn hL hm
      go_enter Tryz.func65,Tryz.ntmps65
      go_upto_region 1 with fail
      rw [<- hW1]
      rw [show w.heap.size + 1 = b1 from e1.symm,show w.heap.size = b0 from e0.symm]
      clear hW1 e0 e1
      obtain ⟨k0,k1,_⟩:=Bx.cells X0.out
      go_wp2_with fail
      refine HCK.out.mono ?_
      rintro e w2 ⟨rfl,hb2⟩
      have Y0:=jK X0 hb2; have Y1:=jK X1 hb2; have HB2:=jS HB hb2
      clear hb2 X0 X1 k0 k1 HCK
      have hg0:g = 0:=hgz
      subst hg0
      have s2:=S2.out
      have s3:=S3.out
      obtain ⟨_,j1,j2,j3,j4,_⟩:=jb_cells Y1.out
      obtain ⟨j0,_,_,_,_,_⟩:=jb_cells Y1.out
      obtain ⟨k0,k1,_⟩:=Bx.cells Y0.out
      go_wp2
      all_goals (go_ret; exact ⟨Fx.ret_int (by unfold chkJ jobOk; rw [HG.out,if_pos rfl]; first | (simp [*]; done) | (simp [Int.not_le.2 (show st < 0 by omega)]; done) | (simp [Int.not_lt.2 (show V <= so by omega)]; done) | (simp [Int.not_le.2 (show so < 0 by omega)]; done) | (simp [*]; omega) | (simp; omega)),HB2.out⟩)
    ·have q3:(ep == 0) = false:=by simp [s3]
     obtain ⟨W1,hW1⟩:∃ W1,W1 = (w.alloc (.cells #[.int .i64 V,.slice A L.length c] 24)).alloc (.cells #[.int .u8 2,.int .i64 st,.int .i64 so,.int .i64 dm,.int .i64 ep] 40):=⟨_,rfl⟩
     have hal:=al2 w (.cells #[.int .i64 V,.slice A L.length c] 24) (.cells #[.int .u8 2,.int .i64 st,.int .i64 so,.int .i64 dm,.int .i64 ep] 40)
     rw [<- hW1] at hal
     obtain ⟨b0,e0⟩:∃ b0,b0 = w.heap.size:=⟨_,rfl⟩
     obtain ⟨b1,e1⟩:∃ b1,b1 = w.heap.size + 1:=⟨_,rfl⟩
     obtain ⟨x0,x1,hb⟩:=hal
     rw [<- e0] at x0; rw [<- e1] at x1
     have X0:=jH x0; have X1:=jH x1; have HB:=jH hb
     have HCK:=jH (rcheck_any V A c L W1 (hL.below hb) hm)
     obtain ⟨g,hg⟩:∃ g,chk V L = g:=⟨_,rfl⟩
     rw [hg] at HCK hgz
     have HG:=jH hg
     obtain ⟨n,hn⟩:∃ n,n = L.length:=⟨_,rfl⟩
     rw [<- hn] at HCK X0 hW1 ⊢
     clear x0 x1 hb hg hn hL hm
     go_enter Tryz.func65,Tryz.ntmps65
     go_upto_region 1 with fail
     rw [<- hW1]
     rw [show w.heap.size + 1 = b1 from e1.symm,show w.heap.size = b0 from e0.symm]
     clear hW1 e0 e1
     obtain ⟨k0,k1,_⟩:=Bx.cells X0.out
     go_wp2_with fail
     refine HCK.out.mono ?_
     rintro e w2 ⟨rfl,hb2⟩
     have Y0:=jK X0 hb2; have Y1:=jK X1 hb2; have HB2:=jS HB hb2
     clear hb2 X0 X1 k0 k1 HCK
     have hg0:g = 0:=hgz
     subst hg0
     have s2:=S2.out
     obtain ⟨_,j1,j2,j3,j4,_⟩:=jb_cells Y1.out
     obtain ⟨j0,_,_,_,_,_⟩:=jb_cells Y1.out
     obtain ⟨k0,k1,_⟩:=Bx.cells Y0.out
     go_wp2
     all_goals (go_ret; exact ⟨Fx.ret_int (by unfold chkJ jobOk; rw [HG.out,if_pos rfl]; first | (simp [*]; done) | (simp [Int.not_le.2 (show st < 0 by omega)]; done) | (simp [Int.not_lt.2 (show V <= so by omega)]; done) | (simp [Int.not_le.2 (show so < 0 by omega)]; done) | (simp [*]; omega) | (simp; omega)),HB2.out⟩)
   ·have q2:(dm == 0) = false:=by simp [s2]
    obtain ⟨W1,hW1⟩:∃ W1,W1 = (w.alloc (.cells #[.int .i64 V,.slice A L.length c] 24)).alloc (.cells #[.int .u8 2,.int .i64 st,.int .i64 so,.int .i64 dm,.int .i64 ep] 40):=⟨_,rfl⟩
    have hal:=al2 w (.cells #[.int .i64 V,.slice A L.length c] 24) (.cells #[.int .u8 2,.int .i64 st,.int .i64 so,.int .i64 dm,.int .i64 ep] 40)
    rw [<- hW1] at hal
    obtain ⟨b0,e0⟩:∃ b0,b0 = w.heap.size:=⟨_,rfl⟩
    obtain ⟨b1,e1⟩:∃ b1,b1 = w.heap.size + 1:=⟨_,rfl⟩
    obtain ⟨x0,x1,hb⟩:=hal
    rw [<- e0] at x0; rw [<- e1] at x1
    have X0:=jH x0; have X1:=jH x1; have HB:=jH hb
    have HCK:=jH (rcheck_any V A c L W1 (hL.below hb) hm)
    obtain ⟨g,hg⟩:∃ g,chk V L = g:=⟨_,rfl⟩
    rw [hg] at HCK hgz
    have HG:=jH hg
    obtain ⟨n,hn⟩:∃ n,n = L.length:=⟨_,rfl⟩
    rw [<- hn] at HCK X0 hW1 ⊢
    clear x0 x1 hb hg hn hL hm
    go_enter Tryz.func65,Tryz.ntmps65
    go_upto_region 1 with fail
    rw [<- hW1]
    rw [show w.heap.size + 1 = b1 from e1.symm,show w.heap.size = b0 from e0.symm]
    clear hW1 e0 e1
    obtain ⟨k0,k1,_⟩:=Bx.cells X0.out
    go_wp2_with fail
    refine HCK.out.mono ?_
    rintro e w2 ⟨rfl,hb2⟩
    have Y0:=jK X0 hb2; have Y1:=jK X1 hb2; have HB2:=jS HB hb2
    clear hb2 X0 X1 k0 k1 HCK
    have hg0:g = 0:=hgz
    subst hg0
    obtain ⟨_,j1,j2,j3,j4,_⟩:=jb_cells Y1.out
    obtain ⟨j0,_,_,_,_,_⟩:=jb_cells Y1.out
    obtain ⟨k0,k1,_⟩:=Bx.cells Y0.out
    go_wp2
    all_goals (go_ret; exact ⟨Fx.ret_int (by unfold chkJ jobOk; rw [HG.out,if_pos rfl]; first | (simp [*]; done) | (simp [Int.not_le.2 (show st < 0 by omega)]; done) | (simp [Int.not_lt.2 (show V <= so by omega)]; done) | (simp [Int.not_le.2 (show so < 0 by omega)]; done) | (simp [*]; omega) | (simp; omega)),HB2.out⟩)
  ·obtain ⟨W1,hW1⟩:∃ W1,W1 = (w.alloc (.cells #[.int .i64 V,.slice A L.length c] 24)).alloc (.cells #[.int .u8 2,.int .i64 st,.int .i64 so,.int .i64 dm,.int .i64 ep] 40):=⟨_,rfl⟩
   have hal:=al2 w (.cells #[.int .i64 V,.slice A L.length c] 24) (.cells #[.int .u8 2,.int .i64 st,.int .i64 so,.int .i64 dm,.int .i64 ep] 40)
   rw [<- hW1] at hal
   obtain ⟨b0,e0⟩:∃ b0,b0 = w.heap.size:=⟨_,rfl⟩
   obtain ⟨b1,e1⟩:∃ b1,b1 = w.heap.size + 1:=⟨_,rfl⟩
   obtain ⟨x0,x1,hb⟩:=hal
   rw [<- e0] at x0; rw [<- e1] at x1
   have X0:=jH x0; have X1:=jH x1; have HB:=jH hb
   have HCK:=jH (rcheck_any V A c L W1 (hL.below hb) hm)
   obtain ⟨g,hg⟩:∃ g,chk V L = g:=⟨_,rfl⟩
   rw [hg] at HCK hgz
   have HG:=jH hg
   obtain ⟨n,hn⟩:∃ n,n = L.length:=⟨_,rfl⟩
   rw [<- hn] at HCK X0 hW1 ⊢
   clear x0 x1 hb hg hn hL hm
   go_enter Tryz.func65,Tryz.ntmps65
   go_upto_region 1 with fail
   rw [<- hW1]
   rw [show w.heap.size + 1 = b1 from e1.symm,show w.heap.size = b0 from e0.symm]
   clear hW1 e0 e1
   obtain ⟨k0,k1,_⟩:=Bx.cells X0.out
   go_wp2_with fail
   refine HCK.out.mono ?_
   rintro e w2 ⟨rfl,hb2⟩
   have Y0:=jK X0 hb2; have Y1:=jK X1 hb2; have HB2:=jS HB hb2
   clear hb2 X0 X1 k0 k1 HCK
   have hg0:g = 0:=hgz
   subst hg0
   obtain ⟨_,j1,j2,j3,j4,_⟩:=jb_cells Y1.out
   obtain ⟨j0,_,_,_,_,_⟩:=jb_cells Y1.out
   obtain ⟨k0,k1,_⟩:=Bx.cells Y0.out
   go_wp2
   all_goals (go_ret; exact ⟨Fx.ret_int (by unfold chkJ jobOk; rw [HG.out,if_pos rfl]; first | (simp [*]; done) | (simp [Int.not_le.2 (show st < 0 by omega)]; done) | (simp [Int.not_lt.2 (show V <= so by omega)]; done) | (simp [Int.not_le.2 (show so < 0 by omega)]; done) | (simp [*]; omega) | (simp; omega)),HB2.out⟩)
 ·obtain ⟨W1,hW1⟩:∃ W1,W1 = (w.alloc (.cells #[.int .i64 V,.slice A L.length c] 24)).alloc (.cells #[.int .u8 2,.int .i64 st,.int .i64 so,.int .i64 dm,.int .i64 ep] 40):=⟨_,rfl⟩
  have hal:=al2 w (.cells #[.int .i64 V,.slice A L.length c] 24) (.cells #[.int .u8 2,.int .i64 st,.int .i64 so,.int .i64 dm,.int .i64 ep] 40)
  rw [<- hW1] at hal
  obtain ⟨b0,e0⟩:∃ b0,b0 = w.heap.size:=⟨_,rfl⟩
  obtain ⟨b1,e1⟩:∃ b1,b1 = w.heap.size + 1:=⟨_,rfl⟩
  obtain ⟨x0,x1,hb⟩:=hal
  rw [<- e0] at x0; rw [<- e1] at x1
  have X0:=jH x0; have X1:=jH x1; have HB:=jH hb
  have HCK:=jH (rcheck_any V A c L W1 (hL.below hb) hm)
  obtain ⟨g,hg⟩:∃ g,chk V L = g:=⟨_,rfl⟩
  rw [hg] at HCK hgz
  have HG:=jH hg
  obtain ⟨n,hn⟩:∃ n,n = L.length:=⟨_,rfl⟩
  rw [<- hn] at HCK X0 hW1 ⊢
  clear x0 x1 hb hg hn hL hm
  go_enter Tryz.func65,Tryz.ntmps65
  go_upto_region 1 with fail
  rw [<- hW1]
  rw [show w.heap.size + 1 = b1 from e1.symm,show w.heap.size = b0 from e0.symm]
  clear hW1 e0 e1
  obtain ⟨k0,k1,_⟩:=Bx.cells X0.out
  go_wp2_with fail
  refine HCK.out.mono ?_
  rintro e w2 ⟨rfl,hb2⟩
  have Y0:=jK X0 hb2; have Y1:=jK X1 hb2; have HB2:=jS HB hb2
  clear hb2 X0 X1 k0 k1 HCK
  have hg0:g = 0:=hgz
  subst hg0
  obtain ⟨_,j1,j2,j3,j4,_⟩:=jb_cells Y1.out
  obtain ⟨j0,_,_,_,_,_⟩:=jb_cells Y1.out
  obtain ⟨k0,k1,_⟩:=Bx.cells Y0.out
  go_wp2
  all_goals (go_ret; exact ⟨Fx.ret_int (by unfold chkJ jobOk; rw [HG.out,if_pos rfl]; first | (simp [*]; done) | (simp [Int.not_le.2 (show st < 0 by omega)]; done) | (simp [Int.not_lt.2 (show V <= so by omega)]; done) | (simp [Int.not_le.2 (show so < 0 by omega)]; done) | (simp [*]; omega) | (simp; omega)),HB2.out⟩)
set_option maxRecDepth 100000 in
set_option maxHeartbeats 4000000 in
theorem rchk_3 (st so dm ep V:Int) (A:Option Addr) (c:Nat) (L:List Ed) (w:World) (hL:EAt w A L) (hm:L.length <= 9223372036854775807) (hgz:chk V L = 0) :
 Calls Tryz.prog 65 #[.agg #[.int .i64 V,.slice A L.length c],.agg #[.int .u8 3,.int .i64 st,.int .i64 so,.int .i64 dm,.int .i64 ep]] w fun e w' => e = .returned (.int .i64 (chkJ 3 st so dm ep V L))/\Below w.heap.size w w':=by
 by_cases s0:0 <= st
 ·skip
  by_cases s1:st <= 2000
  ·skip
   by_cases s2:dm = 0
   ·have S2:=jH s2
    clear s2
    by_cases s3:ep = 0
    ·have S3:=jH s3
     clear s3
     by_cases s4:0 <= so
     ·skip
      by_cases s5:so < V
      ·skip
       obtain ⟨W1,hW1⟩:∃ W1,W1 = (w.alloc (.cells #[.int .i64 V,.slice A L.length c] 24)).alloc (.cells #[.int .u8 3,.int .i64 st,.int .i64 so,.int .i64 dm,.int .i64 ep] 40):=⟨_,rfl⟩
       have hal:=al2 w (.cells #[.int .i64 V,.slice A L.length c] 24) (.cells #[.int .u8 3,.int .i64 st,.int .i64 so,.int .i64 dm,.int .i64 ep] 40)
       rw [<- hW1] at hal
       obtain ⟨b0,e0⟩:∃ b0,b0 = w.heap.size:=⟨_,rfl⟩
       obtain ⟨b1,e1⟩:∃ b1,b1 = w.heap.size + 1:=⟨_,rfl⟩
       obtain ⟨x0,x1,hb⟩:=hal
       rw [<- e0] at x0; rw [<- e1] at x1
       have X0:=jH x0; have X1:=jH x1; have HB:=jH hb
       have HCK:=jH (rcheck_any V A c L W1 (hL.below hb) hm)
       obtain ⟨g,hg⟩:∃ g,chk V L = g:=⟨_,rfl⟩
       rw [hg] at HCK hgz
       have HG:=jH hg
       obtain ⟨n,hn⟩:∃ n,n = L.length:=⟨_,rfl⟩
       rw [<- hn] at HCK X0 hW1 ⊢
       clear x0 x1 hb hg hn hL hm
       go_enter Tryz.func65,Tryz.ntmps65
       go_upto_region 1 with fail
       rw [<- hW1]
       rw [show w.heap.size + 1 = b1 from e1.symm,show w.heap.size = b0 from e0.symm]
       clear hW1 e0 e1
       obtain ⟨k0,k1,_⟩:=Bx.cells X0.out
       go_wp2_with fail
       refine HCK.out.mono ?_
       rintro e w2 ⟨rfl,hb2⟩
       have Y0:=jK X0 hb2; have Y1:=jK X1 hb2; have HB2:=jS HB hb2
       clear hb2 X0 X1 k0 k1 HCK
       have hg0:g = 0:=hgz
       subst hg0
       have s2:=S2.out
       have s3:=S3.out
       obtain ⟨_,j1,j2,j3,j4,_⟩:=jb_cells Y1.out
       obtain ⟨j0,_,_,_,_,_⟩:=jb_cells Y1.out
       obtain ⟨k0,k1,_⟩:=Bx.cells Y0.out
       go_wp2
       all_goals (go_ret; exact ⟨Fx.ret_int (by unfold chkJ jobOk; rw [HG.out,if_pos rfl]; first | (simp [*]; done) | (simp [Int.not_le.2 (show st < 0 by omega)]; done) | (simp [Int.not_lt.2 (show V <= so by omega)]; done) | (simp [Int.not_le.2 (show so < 0 by omega)]; done) | (simp [*]; omega) | (simp; omega)),HB2.out⟩)
      ·have q5:decide (so < V) = false:=decide_eq_false s5
       obtain ⟨W1,hW1⟩:∃ W1,W1 = (w.alloc (.cells #[.int .i64 V,.slice A L.length c] 24)).alloc (.cells #[.int .u8 3,.int .i64 st,.int .i64 so,.int .i64 dm,.int .i64 ep] 40):=⟨_,rfl⟩
       have hal:=al2 w (.cells #[.int .i64 V,.slice A L.length c] 24) (.cells #[.int .u8 3,.int .i64 st,.int .i64 so,.int .i64 dm,.int .i64 ep] 40)
       rw [<- hW1] at hal
       obtain ⟨b0,e0⟩:∃ b0,b0 = w.heap.size:=⟨_,rfl⟩
       obtain ⟨b1,e1⟩:∃ b1,b1 = w.heap.size + 1:=⟨_,rfl⟩
       obtain ⟨x0,x1,hb⟩:=hal
       rw [<- e0] at x0; rw [<- e1] at x1
       have X0:=jH x0; have X1:=jH x1; have HB:=jH hb
       have HCK:=jH (rcheck_any V A c L W1 (hL.below hb) hm)
       obtain ⟨g,hg⟩:∃ g,chk V L = g:=⟨_,rfl⟩
       rw [hg] at HCK hgz
       have HG:=jH hg
       obtain ⟨n,hn⟩:∃ n,n = L.length:=⟨_,rfl⟩
       rw [<- hn] at HCK X0 hW1 ⊢
       clear x0 x1 hb hg hn hL hm
       go_enter Tryz.func65,Tryz.ntmps65
       go_upto_region 1 with fail
       rw [<- hW1]
       rw [show w.heap.size + 1 = b1 from e1.symm,show w.heap.size = b0 from e0.symm]
       clear hW1 e0 e1
       obtain ⟨k0,k1,_⟩:=Bx.cells X0.out
       go_wp2_with fail
       refine HCK.out.mono ?_
       rintro e w2 ⟨rfl,hb2⟩
       have Y0:=jK X0 hb2; have Y1:=jK X1 hb2; have HB2:=jS HB hb2
       clear hb2 X0 X1 k0 k1 HCK
       have hg0:g = 0:=hgz
       subst hg0
       have s2:=S2.out
       have s3:=S3.out
       obtain ⟨_,j1,j2,j3,j4,_⟩:=jb_cells Y1.out
       obtain ⟨j0,_,_,_,_,_⟩:=jb_cells Y1.out
       obtain ⟨k0,k1,_⟩:=Bx.cells Y0.out
       go_wp2
       all_goals (go_ret; exact ⟨Fx.ret_int (by unfold chkJ jobOk; rw [HG.out,if_pos rfl]; first | (simp [*]; done) | (simp [Int.not_le.2 (show st < 0 by omega)]; done) | (simp [Int.not_lt.2 (show V <= so by omega)]; done) | (simp [Int.not_le.2 (show so < 0 by omega)]; done) | (simp [*]; omega) | (simp; omega)),HB2.out⟩)
     ·obtain ⟨W1,hW1⟩:∃ W1,W1 = (w.alloc (.cells #[.int .i64 V,.slice A L.length c] 24)).alloc (.cells #[.int .u8 3,.int .i64 st,.int .i64 so,.int .i64 dm,.int .i64 ep] 40):=⟨_,rfl⟩
      have hal:=al2 w (.cells #[.int .i64 V,.slice A L.length c] 24) (.cells #[.int .u8 3,.int .i64 st,.int .i64 so,.int .i64 dm,.int .i64 ep] 40)
      rw [<- hW1] at hal
      obtain ⟨b0,e0⟩:∃ b0,b0 = w.heap.size:=⟨_,rfl⟩
      obtain ⟨b1,e1⟩:∃ b1,b1 = w.heap.size + 1:=⟨_,rfl⟩
      obtain ⟨x0,x1,hb⟩:=hal
      rw [<- e0] at x0; rw [<- e1] at x1
      have X0:=jH x0; have X1:=jH x1; have HB:=jH hb
      have HCK:=jH (rcheck_any V A c L W1 (hL.below hb) hm)
      obtain ⟨g,hg⟩:∃ g,chk V L = g:=⟨_,rfl⟩
      rw [hg] at HCK hgz
      have HG:=jH hg
      obtain ⟨n,hn⟩:∃ n,n = L.length:=⟨_,rfl⟩
      rw [<- hn] at HCK X0 hW1 ⊢
      clear x0 x1 hb hg hn hL hm
      go_enter Tryz.func65,Tryz.ntmps65
      go_upto_region 1 with fail
      rw [<- hW1]
      rw [show w.heap.size + 1 = b1 from e1.symm,show w.heap.size = b0 from e0.symm]
      clear hW1 e0 e1
      obtain ⟨k0,k1,_⟩:=Bx.cells X0.out
      go_wp2_with fail
      refine HCK.out.mono ?_
      rintro e w2 ⟨rfl,hb2⟩
      have Y0:=jK X0 hb2; have Y1:=jK X1 hb2; have HB2:=jS HB hb2
      clear hb2 X0 X1 k0 k1 HCK
      have hg0:g = 0:=hgz
      subst hg0
      have s2:=S2.out
      have s3:=S3.out
      obtain ⟨_,j1,j2,j3,j4,_⟩:=jb_cells Y1.out
      obtain ⟨j0,_,_,_,_,_⟩:=jb_cells Y1.out
      obtain ⟨k0,k1,_⟩:=Bx.cells Y0.out
      go_wp2
      all_goals (go_ret; exact ⟨Fx.ret_int (by unfold chkJ jobOk; rw [HG.out,if_pos rfl]; first | (simp [*]; done) | (simp [Int.not_le.2 (show st < 0 by omega)]; done) | (simp [Int.not_lt.2 (show V <= so by omega)]; done) | (simp [Int.not_le.2 (show so < 0 by omega)]; done) | (simp [*]; omega) | (simp; omega)),HB2.out⟩)
    ·have q3:(ep == 0) = false:=by simp [s3]
     obtain ⟨W1,hW1⟩:∃ W1,W1 = (w.alloc (.cells #[.int .i64 V,.slice A L.length c] 24)).alloc (.cells #[.int .u8 3,.int .i64 st,.int .i64 so,.int .i64 dm,.int .i64 ep] 40):=⟨_,rfl⟩
     have hal:=al2 w (.cells #[.int .i64 V,.slice A L.length c] 24) (.cells #[.int .u8 3,.int .i64 st,.int .i64 so,.int .i64 dm,.int .i64 ep] 40)
     rw [<- hW1] at hal
     obtain ⟨b0,e0⟩:∃ b0,b0 = w.heap.size:=⟨_,rfl⟩
     obtain ⟨b1,e1⟩:∃ b1,b1 = w.heap.size + 1:=⟨_,rfl⟩
     obtain ⟨x0,x1,hb⟩:=hal
     rw [<- e0] at x0; rw [<- e1] at x1
     have X0:=jH x0; have X1:=jH x1; have HB:=jH hb
     have HCK:=jH (rcheck_any V A c L W1 (hL.below hb) hm)
     obtain ⟨g,hg⟩:∃ g,chk V L = g:=⟨_,rfl⟩
     rw [hg] at HCK hgz
     have HG:=jH hg
     obtain ⟨n,hn⟩:∃ n,n = L.length:=⟨_,rfl⟩
     rw [<- hn] at HCK X0 hW1 ⊢
     clear x0 x1 hb hg hn hL hm
     go_enter Tryz.func65,Tryz.ntmps65
     go_upto_region 1 with fail
     rw [<- hW1]
     rw [show w.heap.size + 1 = b1 from e1.symm,show w.heap.size = b0 from e0.symm]
     clear hW1 e0 e1
     obtain ⟨k0,k1,_⟩:=Bx.cells X0.out
     go_wp2_with fail
     refine HCK.out.mono ?_
     rintro e w2 ⟨rfl,hb2⟩
     have Y0:=jK X0 hb2; have Y1:=jK X1 hb2; have HB2:=jS HB hb2
     clear hb2 X0 X1 k0 k1 HCK
     have hg0:g = 0:=hgz
     subst hg0
     have s2:=S2.out
     obtain ⟨_,j1,j2,j3,j4,_⟩:=jb_cells Y1.out
     obtain ⟨j0,_,_,_,_,_⟩:=jb_cells Y1.out
     obtain ⟨k0,k1,_⟩:=Bx.cells Y0.out
     go_wp2
     all_goals (go_ret; exact ⟨Fx.ret_int (by unfold chkJ jobOk; rw [HG.out,if_pos rfl]; first | (simp [*]; done) | (simp [Int.not_le.2 (show st < 0 by omega)]; done) | (simp [Int.not_lt.2 (show V <= so by omega)]; done) | (simp [Int.not_le.2 (show so < 0 by omega)]; done) | (simp [*]; omega) | (simp; omega)),HB2.out⟩)
   ·have q2:(dm == 0) = false:=by simp [s2]
    obtain ⟨W1,hW1⟩:∃ W1,W1 = (w.alloc (.cells #[.int .i64 V,.slice A L.length c] 24)).alloc (.cells #[.int .u8 3,.int .i64 st,.int .i64 so,.int .i64 dm,.int .i64 ep] 40):=⟨_,rfl⟩
    have hal:=al2 w (.cells #[.int .i64 V,.slice A L.length c] 24) (.cells #[.int .u8 3,.int .i64 st,.int .i64 so,.int .i64 dm,.int .i64 ep] 40)
    rw [<- hW1] at hal
    obtain ⟨b0,e0⟩:∃ b0,b0 = w.heap.size:=⟨_,rfl⟩
    obtain ⟨b1,e1⟩:∃ b1,b1 = w.heap.size + 1:=⟨_,rfl⟩
    obtain ⟨x0,x1,hb⟩:=hal
    rw [<- e0] at x0; rw [<- e1] at x1
    have X0:=jH x0; have X1:=jH x1; have HB:=jH hb
    have HCK:=jH (rcheck_any V A c L W1 (hL.below hb) hm)
    obtain ⟨g,hg⟩:∃ g,chk V L = g:=⟨_,rfl⟩
    rw [hg] at HCK hgz
    have HG:=jH hg
    obtain ⟨n,hn⟩:∃ n,n = L.length:=⟨_,rfl⟩
    rw [<- hn] at HCK X0 hW1 ⊢
    clear x0 x1 hb hg hn hL hm
    go_enter Tryz.func65,Tryz.ntmps65
    go_upto_region 1 with fail
    rw [<- hW1]
    rw [show w.heap.size + 1 = b1 from e1.symm,show w.heap.size = b0 from e0.symm]
    clear hW1 e0 e1
    obtain ⟨k0,k1,_⟩:=Bx.cells X0.out
    go_wp2_with fail
    refine HCK.out.mono ?_
    rintro e w2 ⟨rfl,hb2⟩
    have Y0:=jK X0 hb2; have Y1:=jK X1 hb2; have HB2:=jS HB hb2
    clear hb2 X0 X1 k0 k1 HCK
    have hg0:g = 0:=hgz
    subst hg0
    obtain ⟨_,j1,j2,j3,j4,_⟩:=jb_cells Y1.out
    obtain ⟨j0,_,_,_,_,_⟩:=jb_cells Y1.out
    obtain ⟨k0,k1,_⟩:=Bx.cells Y0.out
    go_wp2
    all_goals (go_ret; exact ⟨Fx.ret_int (by unfold chkJ jobOk; rw [HG.out,if_pos rfl]; first | (simp [*]; done) | (simp [Int.not_le.2 (show st < 0 by omega)]; done) | (simp [Int.not_lt.2 (show V <= so by omega)]; done) | (simp [Int.not_le.2 (show so < 0 by omega)]; done) | (simp [*]; omega) | (simp; omega)),HB2.out⟩)
  ·obtain ⟨W1,hW1⟩:∃ W1,W1 = (w.alloc (.cells #[.int .i64 V,.slice A L.length c] 24)).alloc (.cells #[.int .u8 3,.int .i64 st,.int .i64 so,.int .i64 dm,.int .i64 ep] 40):=⟨_,rfl⟩
   have hal:=al2 w (.cells #[.int .i64 V,.slice A L.length c] 24) (.cells #[.int .u8 3,.int .i64 st,.int .i64 so,.int .i64 dm,.int .i64 ep] 40)
   rw [<- hW1] at hal
   obtain ⟨b0,e0⟩:∃ b0,b0 = w.heap.size:=⟨_,rfl⟩
   obtain ⟨b1,e1⟩:∃ b1,b1 = w.heap.size + 1:=⟨_,rfl⟩
   obtain ⟨x0,x1,hb⟩:=hal
   rw [<- e0] at x0; rw [<- e1] at x1
   have X0:=jH x0; have X1:=jH x1; have HB:=jH hb
   have HCK:=jH (rcheck_any V A c L W1 (hL.below hb) hm)
   obtain ⟨g,hg⟩:∃ g,chk V L = g:=⟨_,rfl⟩
   rw [hg] at HCK hgz
   have HG:=jH hg
   obtain ⟨n,hn⟩:∃ n,n = L.length:=⟨_,rfl⟩
   rw [<- hn] at HCK X0 hW1 ⊢
   clear x0 x1 hb hg hn hL hm
   go_enter Tryz.func65,Tryz.ntmps65
   go_upto_region 1 with fail
   rw [<- hW1]
   rw [show w.heap.size + 1 = b1 from e1.symm,show w.heap.size = b0 from e0.symm]
   clear hW1 e0 e1
   obtain ⟨k0,k1,_⟩:=Bx.cells X0.out
   go_wp2_with fail
   refine HCK.out.mono ?_
   rintro e w2 ⟨rfl,hb2⟩
   have Y0:=jK X0 hb2; have Y1:=jK X1 hb2; have HB2:=jS HB hb2
   clear hb2 X0 X1 k0 k1 HCK
   have hg0:g = 0:=hgz
   subst hg0
   obtain ⟨_,j1,j2,j3,j4,_⟩:=jb_cells Y1.out
   obtain ⟨j0,_,_,_,_,_⟩:=jb_cells Y1.out
   obtain ⟨k0,k1,_⟩:=Bx.cells Y0.out
   go_wp2
   all_goals (go_ret; exact ⟨Fx.ret_int (by unfold chkJ jobOk; rw [HG.out,if_pos rfl]; first | (simp [*]; done) | (simp [Int.not_le.2 (show st < 0 by omega)]; done) | (simp [Int.not_lt.2 (show V <= so by omega)]; done) | (simp [Int.not_le.2 (show so < 0 by omega)]; done) | (simp [*]; omega) | (simp; omega)),HB2.out⟩)
 ·obtain ⟨W1,hW1⟩:∃ W1,W1 = (w.alloc (.cells #[.int .i64 V,.slice A L.length c] 24)).alloc (.cells #[.int .u8 3,.int .i64 st,.int .i64 so,.int .i64 dm,.int .i64 ep] 40):=⟨_,rfl⟩
  have hal:=al2 w (.cells #[.int .i64 V,.slice A L.length c] 24) (.cells #[.int .u8 3,.int .i64 st,.int .i64 so,.int .i64 dm,.int .i64 ep] 40)
  rw [<- hW1] at hal
  obtain ⟨b0,e0⟩:∃ b0,b0 = w.heap.size:=⟨_,rfl⟩
  obtain ⟨b1,e1⟩:∃ b1,b1 = w.heap.size + 1:=⟨_,rfl⟩
  obtain ⟨x0,x1,hb⟩:=hal
  rw [<- e0] at x0; rw [<- e1] at x1
  have X0:=jH x0; have X1:=jH x1; have HB:=jH hb
  have HCK:=jH (rcheck_any V A c L W1 (hL.below hb) hm)
  obtain ⟨g,hg⟩:∃ g,chk V L = g:=⟨_,rfl⟩
  rw [hg] at HCK hgz
  have HG:=jH hg
  obtain ⟨n,hn⟩:∃ n,n = L.length:=⟨_,rfl⟩
  rw [<- hn] at HCK X0 hW1 ⊢
  clear x0 x1 hb hg hn hL hm
  go_enter Tryz.func65,Tryz.ntmps65
  go_upto_region 1 with fail
  rw [<- hW1]
  rw [show w.heap.size + 1 = b1 from e1.symm,show w.heap.size = b0 from e0.symm]
  clear hW1 e0 e1
  obtain ⟨k0,k1,_⟩:=Bx.cells X0.out
  go_wp2_with fail
  refine HCK.out.mono ?_
  rintro e w2 ⟨rfl,hb2⟩
  have Y0:=jK X0 hb2; have Y1:=jK X1 hb2; have HB2:=jS HB hb2
  clear hb2 X0 X1 k0 k1 HCK
  have hg0:g = 0:=hgz
  subst hg0
  obtain ⟨_,j1,j2,j3,j4,_⟩:=jb_cells Y1.out
  obtain ⟨j0,_,_,_,_,_⟩:=jb_cells Y1.out
  obtain ⟨k0,k1,_⟩:=Bx.cells Y0.out
  go_wp2
  all_goals (go_ret; exact ⟨Fx.ret_int (by unfold chkJ jobOk; rw [HG.out,if_pos rfl]; first | (simp [*]; done) | (simp [Int.not_le.2 (show st < 0 by omega)]; done) | (simp [Int.not_lt.2 (show V <= so by omega)]; done) | (simp [Int.not_le.2 (show so < 0 by omega)]; done) | (simp [*]; omega) | (simp; omega)),HB2.out⟩)
set_option maxRecDepth 100000 in
set_option maxHeartbeats 4000000 in
theorem rchk_no (k st so dm ep V:Int) (A:Option Addr) (c:Nat) (L:List Ed) (w:World) (hL:EAt w A L) (hm:L.length <= 9223372036854775807) (hgz:chk V L = 0) (h1:¬ k = 1) (h2:¬ k = 2) (h3:¬ k = 3) :
 Calls Tryz.prog 65 #[.agg #[.int .i64 V,.slice A L.length c],.agg #[.int .u8 k,.int .i64 st,.int .i64 so,.int .i64 dm,.int .i64 ep]] w fun e w' => e = .returned (.int .i64 (chkJ k st so dm ep V L))/\Below w.heap.size w w':=by
 have g1:(k == 1) = false:=by simp [h1]
 have g2:(k == 2) = false:=by simp [h2]
 have g3:(k == 3) = false:=by simp [h3]
 by_cases s0:0 <= st
 ·skip
  by_cases s1:st <= 2000
  ·skip
   obtain ⟨W1,hW1⟩:∃ W1,W1 = (w.alloc (.cells #[.int .i64 V,.slice A L.length c] 24)).alloc (.cells #[.int .u8 k,.int .i64 st,.int .i64 so,.int .i64 dm,.int .i64 ep] 40):=⟨_,rfl⟩
   have hal:=al2 w (.cells #[.int .i64 V,.slice A L.length c] 24) (.cells #[.int .u8 k,.int .i64 st,.int .i64 so,.int .i64 dm,.int .i64 ep] 40)
   rw [<- hW1] at hal
   obtain ⟨b0,e0⟩:∃ b0,b0 = w.heap.size:=⟨_,rfl⟩
   obtain ⟨b1,e1⟩:∃ b1,b1 = w.heap.size + 1:=⟨_,rfl⟩
   obtain ⟨x0,x1,hb⟩:=hal
   rw [<- e0] at x0; rw [<- e1] at x1
   have X0:=jH x0; have X1:=jH x1; have HB:=jH hb
   have HCK:=jH (rcheck_any V A c L W1 (hL.below hb) hm)
   obtain ⟨g,hg⟩:∃ g,chk V L = g:=⟨_,rfl⟩
   rw [hg] at HCK hgz
   have HG:=jH hg
   obtain ⟨n,hn⟩:∃ n,n = L.length:=⟨_,rfl⟩
   rw [<- hn] at HCK X0 hW1 ⊢
   clear x0 x1 hb hg hn hL hm
   go_enter Tryz.func65,Tryz.ntmps65
   go_upto_region 1 with fail
   rw [<- hW1]
   rw [show w.heap.size + 1 = b1 from e1.symm,show w.heap.size = b0 from e0.symm]
   clear hW1 e0 e1
   obtain ⟨k0,k1,_⟩:=Bx.cells X0.out
   go_wp2_with fail
   refine HCK.out.mono ?_
   rintro e w2 ⟨rfl,hb2⟩
   have Y0:=jK X0 hb2; have Y1:=jK X1 hb2; have HB2:=jS HB hb2
   clear hb2 X0 X1 k0 k1 HCK
   have hg0:g = 0:=hgz
   subst hg0
   obtain ⟨_,j1,j2,j3,j4,_⟩:=jb_cells Y1.out
   obtain ⟨j0,_,_,_,_,_⟩:=jb_cells Y1.out
   obtain ⟨k0,k1,_⟩:=Bx.cells Y0.out
   go_wp2
   all_goals (go_ret; exact ⟨Fx.ret_int (by unfold chkJ jobOk; rw [HG.out,if_pos rfl]; first | (simp [*]; done) | (simp [Int.not_le.2 (show st < 0 by omega)]; done) | (simp [Int.not_lt.2 (show V <= so by omega)]; done) | (simp [Int.not_le.2 (show so < 0 by omega)]; done) | (simp [*]; omega) | (simp; omega)),HB2.out⟩)
  ·obtain ⟨W1,hW1⟩:∃ W1,W1 = (w.alloc (.cells #[.int .i64 V,.slice A L.length c] 24)).alloc (.cells #[.int .u8 k,.int .i64 st,.int .i64 so,.int .i64 dm,.int .i64 ep] 40):=⟨_,rfl⟩
   have hal:=al2 w (.cells #[.int .i64 V,.slice A L.length c] 24) (.cells #[.int .u8 k,.int .i64 st,.int .i64 so,.int .i64 dm,.int .i64 ep] 40)
   rw [<- hW1] at hal
   obtain ⟨b0,e0⟩:∃ b0,b0 = w.heap.size:=⟨_,rfl⟩
   obtain ⟨b1,e1⟩:∃ b1,b1 = w.heap.size + 1:=⟨_,rfl⟩
   obtain ⟨x0,x1,hb⟩:=hal
   rw [<- e0] at x0; rw [<- e1] at x1
   have X0:=jH x0; have X1:=jH x1; have HB:=jH hb
   have HCK:=jH (rcheck_any V A c L W1 (hL.below hb) hm)
   obtain ⟨g,hg⟩:∃ g,chk V L = g:=⟨_,rfl⟩
   rw [hg] at HCK hgz
   have HG:=jH hg
   obtain ⟨n,hn⟩:∃ n,n = L.length:=⟨_,rfl⟩
   rw [<- hn] at HCK X0 hW1 ⊢
   clear x0 x1 hb hg hn hL hm
   go_enter Tryz.func65,Tryz.ntmps65
   go_upto_region 1 with fail
   rw [<- hW1]
   rw [show w.heap.size + 1 = b1 from e1.symm,show w.heap.size = b0 from e0.symm]
   clear hW1 e0 e1
   obtain ⟨k0,k1,_⟩:=Bx.cells X0.out
   go_wp2_with fail
   refine HCK.out.mono ?_
   rintro e w2 ⟨rfl,hb2⟩
   have Y0:=jK X0 hb2; have Y1:=jK X1 hb2; have HB2:=jS HB hb2
   clear hb2 X0 X1 k0 k1 HCK
   have hg0:g = 0:=hgz
   subst hg0
   obtain ⟨_,j1,j2,j3,j4,_⟩:=jb_cells Y1.out
   obtain ⟨j0,_,_,_,_,_⟩:=jb_cells Y1.out
   obtain ⟨k0,k1,_⟩:=Bx.cells Y0.out
   go_wp2
   all_goals (go_ret; exact ⟨Fx.ret_int (by unfold chkJ jobOk; rw [HG.out,if_pos rfl]; first | (simp [*]; done) | (simp [Int.not_le.2 (show st < 0 by omega)]; done) | (simp [Int.not_lt.2 (show V <= so by omega)]; done) | (simp [Int.not_le.2 (show so < 0 by omega)]; done) | (simp [*]; omega) | (simp; omega)),HB2.out⟩)
 ·obtain ⟨W1,hW1⟩:∃ W1,W1 = (w.alloc (.cells #[.int .i64 V,.slice A L.length c] 24)).alloc (.cells #[.int .u8 k,.int .i64 st,.int .i64 so,.int .i64 dm,.int .i64 ep] 40):=⟨_,rfl⟩
  have hal:=al2 w (.cells #[.int .i64 V,.slice A L.length c] 24) (.cells #[.int .u8 k,.int .i64 st,.int .i64 so,.int .i64 dm,.int .i64 ep] 40)
  rw [<- hW1] at hal
  obtain ⟨b0,e0⟩:∃ b0,b0 = w.heap.size:=⟨_,rfl⟩
  obtain ⟨b1,e1⟩:∃ b1,b1 = w.heap.size + 1:=⟨_,rfl⟩
  obtain ⟨x0,x1,hb⟩:=hal
  rw [<- e0] at x0; rw [<- e1] at x1
  have X0:=jH x0; have X1:=jH x1; have HB:=jH hb
  have HCK:=jH (rcheck_any V A c L W1 (hL.below hb) hm)
  obtain ⟨g,hg⟩:∃ g,chk V L = g:=⟨_,rfl⟩
  rw [hg] at HCK hgz
  have HG:=jH hg
  obtain ⟨n,hn⟩:∃ n,n = L.length:=⟨_,rfl⟩
  rw [<- hn] at HCK X0 hW1 ⊢
  clear x0 x1 hb hg hn hL hm
  go_enter Tryz.func65,Tryz.ntmps65
  go_upto_region 1 with fail
  rw [<- hW1]
  rw [show w.heap.size + 1 = b1 from e1.symm,show w.heap.size = b0 from e0.symm]
  clear hW1 e0 e1
  obtain ⟨k0,k1,_⟩:=Bx.cells X0.out
  go_wp2_with fail
  refine HCK.out.mono ?_
  rintro e w2 ⟨rfl,hb2⟩
  have Y0:=jK X0 hb2; have Y1:=jK X1 hb2; have HB2:=jS HB hb2
  clear hb2 X0 X1 k0 k1 HCK
  have hg0:g = 0:=hgz
  subst hg0
  obtain ⟨_,j1,j2,j3,j4,_⟩:=jb_cells Y1.out
  obtain ⟨j0,_,_,_,_,_⟩:=jb_cells Y1.out
  obtain ⟨k0,k1,_⟩:=Bx.cells Y0.out
  go_wp2
  all_goals (go_ret; exact ⟨Fx.ret_int (by unfold chkJ jobOk; rw [HG.out,if_pos rfl]; first | (simp [*]; done) | (simp [Int.not_le.2 (show st < 0 by omega)]; done) | (simp [Int.not_lt.2 (show V <= so by omega)]; done) | (simp [Int.not_le.2 (show so < 0 by omega)]; done) | (simp [*]; omega) | (simp; omega)),HB2.out⟩)
set_option maxRecDepth 100000 in
theorem rcheckj_any (k st so dm ep V:Int) (A:Option Addr) (c:Nat) (L:List Ed) (w:World) (hL:EAt w A L) (hm:L.length <= 9223372036854775807) :
 Calls Tryz.prog 65 #[.agg #[.int .i64 V,.slice A L.length c],.agg #[.int .u8 k,.int .i64 st,.int .i64 so,.int .i64 dm,.int .i64 ep]] w fun e w' => e = .returned (.int .i64 (chkJ k st so dm ep V L))/\Below w.heap.size w w':=by
 by_cases hgz:chk V L = 0
 ·by_cases h1:k = 1
  ·subst h1; exact rchk_1 st so dm ep V A c L w hL hm hgz
  ·by_cases h2:k = 2
   ·subst h2; exact rchk_2 st so dm ep V A c L w hL hm hgz
   ·by_cases h3:k = 3
    ·subst h3; exact rchk_3 st so dm ep V A c L w hL hm hgz
    ·exact rchk_no k st so dm ep V A c L w hL hm hgz h1 h2 h3
 ·obtain ⟨W1,hW1⟩:∃ W1,W1 = (w.alloc (.cells #[.int .i64 V,.slice A L.length c] 24)).alloc (.cells #[.int .u8 k,.int .i64 st,.int .i64 so,.int .i64 dm,.int .i64 ep] 40):=⟨_,rfl⟩
  have hal:=al2 w (.cells #[.int .i64 V,.slice A L.length c] 24) (.cells #[.int .u8 k,.int .i64 st,.int .i64 so,.int .i64 dm,.int .i64 ep] 40)
  rw [<- hW1] at hal
  obtain ⟨b0,e0⟩:∃ b0,b0 = w.heap.size:=⟨_,rfl⟩
  obtain ⟨b1,e1⟩:∃ b1,b1 = w.heap.size + 1:=⟨_,rfl⟩
  obtain ⟨x0,x1,hb⟩:=hal
  rw [<- e0] at x0; rw [<- e1] at x1
  have X0:=jH x0; have X1:=jH x1; have HB:=jH hb
  have HCK:=jH (rcheck_any V A c L W1 (hL.below hb) hm)
  obtain ⟨g,hg⟩:∃ g,chk V L = g:=⟨_,rfl⟩
  rw [hg] at HCK hgz
  have HG:=jH hg
  obtain ⟨n,hn⟩:∃ n,n = L.length:=⟨_,rfl⟩
  rw [<- hn] at HCK X0 hW1 ⊢
  clear x0 x1 hb hg hn hL hm
  go_enter Tryz.func65,Tryz.ntmps65
  go_upto_region 1 with fail
  rw [<- hW1]
  rw [show w.heap.size + 1 = b1 from e1.symm,show w.heap.size = b0 from e0.symm]
  clear hW1 e0 e1
  obtain ⟨k0,k1,_⟩:=Bx.cells X0.out
  go_wp2_with fail
  refine HCK.out.mono ?_
  rintro e w2 ⟨rfl,hb2⟩
  have Y0:=jK X0 hb2; have Y1:=jK X1 hb2; have HB2:=jS HB hb2
  clear hb2 X0 X1 k0 k1 HCK
  have hg0:¬ g = 0:=hgz
  go_wp2
  go_ret
  exact ⟨Fx.ret_int (by unfold chkJ; rw [HG.out,if_neg hgz]),HB2.out⟩
end Go.Proofs.YtdcaekmgfcpbmaaGreat.Al
