import Derived.Test.YtdfibahafilklaaGreatDoorZC29
import Derived.Test.YtdfibahafilklaaGreatDoorZC14
set_option maxRecDepth 100000
set_option maxHeartbeats 8000000
set_option linter.unusedVariables false
set_option linter.unusedSimpArgs false
namespace Go.Proofs.YtdfibahafilklaaGreatDoor.EV
open Go Go.RowKit MM EM
theorem btboxes_in {w wr:World} {z1 z2:Int} {u v:Value} (h:Below (btBox (btBox w z1 u) z2 v).heap.size (btBox (btBox w z1 u) z2 v) wr) :
  wr.cell? ⟨w.heap.size,0,none⟩=some (.int .i64 z1)∧wr.cell? ⟨w.heap.size,1,none⟩=some u∧wr.cell? ⟨w.heap.size+1,0,none⟩=some (.int .i64 z2)∧wr.cell? ⟨w.heap.size+1,1,none⟩=some v∧Below w.heap.size w wr:=by
 obtain ⟨a0,a1,hb⟩:=btbox_in h
 rw [btbox_size] at a0 a1
 have h1:Below (btBox w z1 u).heap.size (btBox w z1 u) wr:=hb
 obtain ⟨c0,c1,hw⟩:=btbox_in h1
 exact ⟨c0,c1,a0,a1,hw⟩
theorem samebat_any (z1 z2:Int) (u v:Value) (xs ys:List Ev) (w:World) (hu:RAny evC w u xs) (hv:RAny evC w v ys):Calls Tryz.prog 50 #[.agg #[.int .i64 z1,u],.agg #[.int .i64 z2,v]] w (BoolLeft (decide ((z1,xs)=((z2,ys):Bat))) w):=by
 have hmx:Tryz.prog.follows .mixedOrders=true:=by kernel_rfl
 obtain ⟨p1,cap1,rfl,hl1,hm1,_⟩:=hu.shape
 obtain ⟨p2,cap2,rfl,hl2,hm2,_⟩:=hv.shape
 unfold maxLen at hm1 hm2
 have hd:decide ((z1,xs)=((z2,ys):Bat))=((z1 == z2)&&decide (xs=ys)):=by
  rw [Bool.eq_iff_iff,decide_eq_true_eq,Bool.and_eq_true,beq_iff_eq,decide_eq_true_eq]
  exact Prod.ext_iff
 rw [hd]
 have HBX:=Lib.hid (fun wr (h:Below (btBox (btBox w z1 (.slice p1 xs.length cap1)) z2 (.slice p2 ys.length cap2)).heap.size (btBox (btBox w z1 (.slice p1 xs.length cap1)) z2 (.slice p2 ys.length cap2)) wr)=>btboxes_in h)
 have HB0:=Lib.hid (Below.refl (btBox (btBox w z1 (.slice p1 xs.length cap1)) z2 (.slice p2 ys.length cap2)).heap.size (btBox (btBox w z1 (.slice p1 xs.length cap1)) z2 (.slice p2 ys.length cap2)))
 have HU:=Lib.hid hu
 have HV:=Lib.hid hv
 obtain ⟨d0,d1,d2,d3,hbw0⟩:=HBX.out _ HB0.out
 have HW0:=Lib.hid hbw0
 by_cases hz:z1=z2
 ·have t0:(z1 != z2)=false:=by simp [hz]
  have t0':(z1 == z2)=true:=by simp [hz]
  by_cases hn:xs.length=ys.length
  ·have t1:(((xs.length:Int)) != ((ys.length:Int)))=false:=by simp [hn]
   have h0:decide (xs.drop 0=ys.drop 0)=decide (xs=ys):=rfl
   obtain ⟨RES,hRES⟩:∃ RES,decide (xs=ys)=RES:=⟨_,rfl⟩
   rw [hRES] at h0 ⊢
   rw [t0',Bool.true_and]
   obtain ⟨n,hnn⟩:∃ n,xs.length=n:=⟨_,rfl⟩
   have hnb:ys.length=n:=by omega
   have H0:=Lib.hid h0
   have HNA:=Lib.hid hnn
   have HNB:=Lib.hid hnb
   clear h0 hu hv hRES hbw0 hd hn t0' hz
   rw [hnn,hnb] at t1
   rw [hnn] at HB0 hl1 d1
   rw [hnb] at HB0 hl2 d3
   rw [hnn,hnb] at HBX HW0
   rw [hnn] at d0 d2
   rw [hnb] at d0 d1 d2
   rw [hnn] at d3 ⊢
   rw [hnb]
   clear hnn hnb
   go_enter Tryz.func50,Tryz.ntmps50
   go_wp2_with fail
   go_loopw [5] (fun iv wr=>∃ i:Nat,i≤n∧iv=.int .i64 i∧Hid (decide (xs.drop i=ys.drop i)=RES)∧Hid (Below (btBox (btBox w z1 (.slice p1 n cap1)) z2 (.slice p2 n cap2)).heap.size (btBox (btBox w z1 (.slice p1 n cap1)) z2 (.slice p2 n cap2)) wr)) (fun iv _=>n - (intOf iv).toNat)
   case atStart=>exact ⟨0,by omega,rfl,H0,HB0⟩
   case round =>
    obtain ⟨i,hi,rfl,HI,HB⟩:=hrel
    clear H0 HB0 d0 d1 d2 d3
    obtain ⟨d0,d1,d2,d3,hbw⟩:=HBX.out _ HB.out
    by_cases hlt:i<n
    ·have q1:decide ((i:Int)<(n:Int))=true:=by rw [decide_eq_true_eq];omega
     have q2:decide (i<n)=true:=by rw [decide_eq_true_eq];omega
     have q3:(i:Int)<n:=by omega
     have ha:i<xs.length:=by rw [HNA.out];exact hlt
     have hb:i<ys.length:=by rw [HNB.out];exact hlt
     have hu1:=HU.out.below hbw
     have hv1:=HV.out.below hbw
     rw [HNA.out] at hu1
     rw [HNB.out] at hv1
     obtain ⟨b1,o1,v1,rfl,hb1,_,c2,c3,hf1⟩:=ev_at hu1 ha
     obtain ⟨b2,o2,v2,rfl,hb2,_,c5,c6,hf2⟩:=ev_at hv1 hb
     have hnx:=HI.out
     rw [drop_same ha hb] at hnx
     generalize xs[i]=X at *
     generalize ys[i]=Y at *
     obtain ⟨y1,fs1⟩:=X
     obtain ⟨y2,fs2⟩:=Y
     dsimp only at c2 c3 hf1 c5 c6 hf2
     have HN2:=Lib.hid hnx
     have HLT:=Lib.hid hlt
     clear HI hu1 hv1 ha hb hnx hlt
     go_wp2_with fail
     refine RK.begin_ (T:=fun _=>True) [(0,true),(1,true),(2,true),(3,true),(4,true),(5,true),(6,true),(7,true),(8,true),(9,true),(10,false),(11,true)] (by kernel_rfl) (by kernel_rfl) rfl (by kernel_rfl) (fun _ _ d _ _ h=>by cases d<;>exact h) ?_
     simp only [RK.ordered,List.map_cons,List.map_nil,List.getElem?_toArray,List.getElem?_cons_succ,List.getElem?_cons_zero]
     obtain ⟨wd,hwd⟩:∃ wd,wr.drew=wd:=⟨_,rfl⟩
     have hbd:Below wr.heap.size wr wd:=by rw [← hwd];exact (Below.refl _ _).drew
     have G:=Lib.hid (fun W (hW:Kep (fun _=>True) wd W)=>(show W.cell? ⟨w.heap.size,1,none⟩=some (.slice (some ⟨b1,o1,none⟩) n cap1)∧W.cell? ⟨w.heap.size+1,1,none⟩=some (.slice (some ⟨b2,o2,none⟩) n cap2)∧W.cell? ⟨b1,o1+i*2,none⟩=some (.int .i64 y1)∧W.cell? ⟨b1,o1+i*2+1,none⟩=some v1∧W.cell? ⟨b2,o2+i*2,none⟩=some (.int .i64 y2)∧W.cell? ⟨b2,o2+i*2+1,none⟩=some v2 from by
      have hb:=hbd.trans ((hW.below (Nat.le_refl _) (fun _ _=>trivial)).mono hbd.size)
      have hh:=HBX.out W (HB.out.trans (hb.mono HB.out.size))
      exact ⟨hh.2.1,hh.2.2.2.1,(hb.cell (by simpa using hb1)).trans c2,(hb.cell (by simpa using hb1)).trans c3,(hb.cell (by simpa using hb2)).trans c5,(hb.cell (by simpa using hb2)).trans c6⟩))
     have HF1:=Lib.hid (RAny.below hf1.any hbd)
     have HF2:=Lib.hid (RAny.below hf2.any hbd)
     have HBD:=Lib.hid (HB.out.trans (hbd.mono HB.out.size))
     rw [hwd]
     clear hwd hbd hf1 hf2 c2 c3 c5 c6 hb1 hb2 d0 d1 d2 d3 hbw
     repeat (refine RK.take (by rfl) (by intro W hW;obtain ⟨f1,f2,f3,f4,f5,f6⟩:=G.out W hW;go_simp;with_reducible rfl) ?_;simp only [Act.put,List.setIfInBounds_toArray,List.set_cons_zero,List.set_cons_succ])
     obtain ⟨d,hd⟩:∃ d,decide ((y1,fs1)=((y2,fs2):Ev))=d:=⟨_,rfl⟩
     have hcall:=rsame_any y1 y2 _ _ fs1 fs2 _ HF1.out HF2.out
     rw [hd] at hcall
     have HCALL:=Lib.hid hcall
     have hn:=HN2.out
     rw [hd] at hn
     clear hd HN2 hcall
     have HN3:=Lib.hid hn
     clear hn
     refine RK.alone (by rfl) (fun K hK => ?_)
     go_simp
     refine HCALL.out.mono ?_
     rintro e w1 ⟨rfl,b1'⟩
     go_simp
     refine hK.out _ _ (kep_below _ b1') ?_
     clear hK K
     have HB1:=Lib.hid (HBD.out.trans (b1'.mono HBD.out.size))
     clear b1'
     clear HCALL
     repeat (refine RK.take (by rfl) (by intro W hW;go_simp;with_reducible rfl) ?_;simp only [Act.put,List.setIfInBounds_toArray,List.set_cons_zero,List.set_cons_succ])
     refine RK.done ?_
     clear G HF1 HF2
     cases d with
     | true =>
       have hn:=HN3.out
       rw [Bool.true_and] at hn
       have HN4:=Lib.hid hn
       clear HN3 hn
       go_wp2_with fail
       have hlt:=HLT.out
       go_roundw
       case rel=>exact ⟨i+1,by omega,by go_num,HN4,HB1⟩
       case measure=>simp [intOf];omega
     | false =>
       have hn:=HN3.out
       rw [Bool.false_and] at hn
       subst hn
       clear HN3
       go_wp2_with fail
       go_ret
       exact ⟨rfl,(HBX.out _ HB1.out).2.2.2.2⟩
    ·obtain rfl:i=n:=by omega
     have q1:decide ((i:Int)<(i:Int))=false:=by simp
     have q2:decide (i<i)=false:=by simp
     have hf:RES=true:=by
      rw [← HI.out,List.drop_of_length_le (by rw [HNA.out];exact Nat.le_refl _),List.drop_of_length_le (by rw [HNB.out];exact Nat.le_refl _)]
      simp
     subst hf
     have HE:=Lib.hid hbw
     clear HI hbw
     go_wp2_with fail
     go_ret
     exact ⟨rfl,HE.out⟩
  ·have t1:(((xs.length:Int)) != ((ys.length:Int)))=true:=by simp;omega
   have e:decide (xs=ys)=false:=decide_eq_false fun h=>hn (by rw [h])
   rw [e,Bool.and_false]
   clear hu hv e hn hd hbw0 HBX HB0 hz t0'
   go_enter Tryz.func50,Tryz.ntmps50
   go_wp2_with fail
   go_ret
   exact ⟨rfl,HW0.out⟩
 ·have t0:(z1 != z2)=true:=by simp [hz]
  have t0':(z1 == z2)=false:=by simp [hz]
  rw [t0',Bool.false_and]
  clear hu hv hd hbw0 HBX HB0 t0' hz
  go_enter Tryz.func50,Tryz.ntmps50
  go_wp2_with fail
  go_ret
  exact ⟨rfl,HW0.out⟩
end Go.Proofs.YtdfibahafilklaaGreatDoor.EV
