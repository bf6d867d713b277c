/-
  What is proved here: what the three programs send: contracts of their methods send. Conditions: at most 1000 edges each way.
-/
import Derived.Test.YtdcaekmgfcpbmaaGreatQdAlP1
import Derived.Test.YtdcaekmgfcpbmaaGreatQdAlLR2x
import Derived.Test.YtdcaekmgfcpbmaaGreatQdTlPrex
namespace Go.Proofs.YtdcaekmgfcpbmaaGreat.Al
open Go.RowKit Gr Wd Ws Fx Rk Lb
def SdRel (w:World) (M:List Ms) (n:Nat) (gk:Nat) (v i:Value) (wr:World):Prop :=
 ∃ k:Nat,k + gk = n/\i = .int .i64 (k:Int)/\Hid (MOwn wr w.heap.size v (M.take k))/\Hid (Below w.heap.size w wr)
theorem grown_own {w w1 w2:World} {B:Nat} {v:Value} {L:List Ms} (h:Below B w w1) (hB:B <= w1.heap.size) (ho:MOwn w1 B v L) (hg:w1.grownBy w2 v.ownBlock):Below B w w2 :=
 Below.grown h hg hB fun j e => ho.lt j e
theorem msg_new (w:World) (x y:Int):(w.alloc (.cells #[.int .i64 x,.int .i64 y] 155)).heap[w.heap.size]? = some (.cells #[.int .i64 x,.int .i64 y] 155 (0,0)):=heap_alloc_new w _
set_option maxRecDepth 100000 in
set_option maxHeartbeats 2000000 in
theorem send_labels (k st so dm ep v x:Int) (ch:Bool) (A C:Option Addr) (c d:Nat) (L M:List Ed) (w:World) (hL:EAt w A L) (hM:EAt w C M) (hl:L.length <= 1000) (hm:M.length <= 1000) :
 Calls Tryz.prog 174 #[.agg #[.int .u8 k,.int .i64 st,.int .i64 so,.int .i64 dm,.int .i64 ep],.int .i64 v,.int .i64 x,.bool ch,.slice A L.length c,.slice C M.length d] w fun e w' => ∃ r,e = .returned r/\Hid (MOwn w' w.heap.size r (if ch = true then sentL x (nearL v L M) else []))/\Hid (Below w.heap.size w w'):=by
 obtain ⟨W1,hW1⟩:∃ W1,W1 = w.alloc (.cells #[.int .u8 k,.int .i64 st,.int .i64 so,.int .i64 dm,.int .i64 ep] 100):=⟨_,rfl⟩
 have HB:Hid (Below w.heap.size w W1):=jH (by rw [hW1]; exact (Below.refl _ w).alloc (Nat.le_refl _) _)
 cases ch with
 | false =>
  go_enter Tryz.func174,Tryz.ntmps174
  go_wp2
  go_ret
  rw [<- hW1]
  exact ⟨_,rfl,jH (MOwn.none_ _ _),HB⟩
 | true =>
  have HN:=jH (near_any v A C c d L M W1 (hL.below HB.out) (hM.below HB.out) (by omega) (by omega))
  go_enter Tryz.func174,Tryz.ntmps174
  go_upto_region 4 with fail
  rw [<- hW1]
  clear hW1
  go_wp2_with fail
  refine HN.out.mono ?_
  rintro e w2 ⟨r,rfl,HR,HB2⟩
  obtain ⟨N,hN⟩:∃ N,N = nearL v L M:=⟨_,rfl⟩
  rw [<- hN] at HR
  obtain ⟨A2,c2,rfl,hat⟩:=HR.out.form
  obtain ⟨n,hn⟩:∃ n,n = N.length:=⟨_,rfl⟩
  have hn2:n <= 2000:=by
   rw [hn,hN]
   unfold nearL
   have:=putAll_len (tos v L ++ froms v M) []
   have h1:=tos_len v L; have h2:=froms_len v M
   simp at this; omega
  rw [<- hn]
  have HNN:=jH hN; have HNL:=jH hn; have HAT:=jH hat
  have HB3:Hid (Below w.heap.size w w2):=jS HB HB2.out
  clear hN hn hat HR HB2 HB HN
  go_wp2_with fail
  go_loopg [13,23] n (fun gk v i wr => SdRel w2 (sentL x N) n gk v i wr)
  case atStart => exact ⟨0,by omega,rfl,jH (MOwn.none_ _ _),jH (Below.refl _ _)⟩
  case round =>
   obtain ⟨q,hq,rfl,HO,HBq⟩:=hrel
   by_cases hlt:q < n
   ·obtain ⟨u,hu⟩:=at_lt N q (by rw [<- HNL.out]; exact hlt)
    obtain ⟨bk,o,rfl,c0⟩:=(HAT.out.below HBq.out) q u hu
    have hm1:(sentL x N)[q]? = some (u,x):=by unfold sentL; rw [List.getElem?_map,hu]; rfl
    have HM1:=jH (take_at hm1)
    have hlen:((sentL x N).take q).length < 1000000000:=by simp; omega
    have HO1:=jH (HO.out.alloc (.cells #[.int .i64 u,.int .i64 x] 155))
    have HN1:=jH (msg_new wr u x)
    have HB1:=jH (HBq.out.alloc HBq.out.size (.cells #[.int .i64 u,.int .i64 x] 155))
    have HLEN:=jH hlen
    clear hu hm1 hlen
    go_wp2_with (at_builtin; refine app_m rfl (.tmp 27) (.tmp 31) rfl w2.heap.size _ ((sentL x N).take q) u x rfl HO1.out _ rfl HN1.out HLEN.out HB1.out.size ?_)
    intro v3 w3 ho3 hg3
    have HB4:=jH (grown_own HB1.out HB1.out.size HO1.out hg3)
    have HO3:=jH ho3
    clear ho3 hg3
    go_wp2
    go_roundg (gk - 1)
    case measure => omega
    case rel => exact ⟨q + 1,by omega,by go_num,jH (by rw [HM1.out]; exact HO3.out),HB4⟩
   ·have HE:Hid ((sentL x N).take q = sentL x N):=jH (List.take_of_length_le (by unfold sentL; rw [List.length_map,<- HNL.out]; omega))
    go_wp2
    go_ret
    refine ⟨_,rfl,jH ?_,jS HB3 HBq.out⟩
    have:=HO.out
    rw [HE.out,HNN.out] at this
    exact this.mono HB3.out.size
end Go.Proofs.YtdcaekmgfcpbmaaGreat.Al
