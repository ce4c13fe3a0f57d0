import Derived.Test.YtidhgicajlaafaaGreatZD17
import Derived.Test.YtidhgicajlaafaaGreatZD18
set_option maxRecDepth 100000
set_option maxHeartbeats 8000000
set_option linter.unusedVariables false
set_option linter.unusedSimpArgs false
namespace Go.Proofs.YtidhgicajlaafaaGreat.EV
open Go Go.RowKit MM EM
theorem samedocs_any (u v:Value) (xs ys:List Doc) (w:World) (hu:RAny docC w u xs) (hv:RAny docC w v ys):Calls Tryz.prog 20 #[u,v] w (BoolLeft (decide (xs=ys)) w):=by
 obtain ⟨p1,cap1,rfl,hl1,hm1,_⟩:=hu.shape
 obtain ⟨p2,cap2,rfl,hl2,hm2,_⟩:=hv.shape
 unfold maxLen at hm1 hm2
 by_cases hn:xs.length=ys.length
 ·have t0:(((xs.length:Int)) != ((ys.length:Int)))=false:=by simp [hn]
  obtain ⟨n,hnn⟩:∃ n,xs.length=n:=⟨_,rfl⟩
  have hnb:ys.length=n:=by omega
  obtain ⟨RES,hRES⟩:∃ RES,decide (xs=ys)=RES:=⟨_,rfl⟩
  have h0:decide (xs.drop 0=ys.drop 0)=RES:=hRES
  rw [hRES]
  have H0:=Lib.hid h0
  have HU:=Lib.hid hu
  have HV:=Lib.hid hv
  have HNA:=Lib.hid hnn
  have HNB:=Lib.hid hnb
  rw [hnn,hnb] at t0
  rw [hnn] at hl1 ⊢
  rw [hnb] at hl2 ⊢
  clear h0 hu hv hRES hn hnn hnb
  go_enter Tryz.func20,Tryz.ntmps20
  go_wp2_with fail
  go_loopw [5] (fun iv wr=>∃ i:Nat,i≤n∧iv=.int .i64 i∧Hid (decide (xs.drop i=ys.drop i)=RES)∧Hid (Below w.heap.size w wr)) (fun iv _=>n - (intOf iv).toNat)
  case atStart=>exact ⟨0,by omega,rfl,H0,Lib.hid (Below.refl _ _)⟩
  case round =>
   obtain ⟨i,hi,rfl,HI,HB⟩:=hrel
   clear H0
   by_cases hlt:i<n
   ·have q1:decide ((i:Int)<(n:Int))=true:=by rw [decide_eq_true_eq];omega
    have q2:decide (i<n)=true:=by rw [decide_eq_true_eq];omega
    have q3:(i:Int)<n:=by omega
    have ha:i<xs.length:=by rw [HNA.out];exact hlt
    have hb:i<ys.length:=by rw [HNB.out];exact hlt
    have hu1:=HU.out.below HB.out
    have hv1:=HV.out.below HB.out
    rw [HNA.out] at hu1
    rw [HNB.out] at hv1
    obtain ⟨b1,o1,v1,rfl,hb1,_,c1,c2,c3,hf1⟩:=doc_at hu1 ha
    obtain ⟨b2,o2,v2,rfl,hb2,_,c4,c5,c6,hf2⟩:=doc_at hv1 hb
    have hnx:=HI.out
    rw [drop_same ha hb] at hnx
    generalize xs[i]=X at *
    generalize ys[i]=Y at *
    obtain ⟨s1,z1,fs1⟩:=X
    obtain ⟨s2,z2,fs2⟩:=Y
    dsimp only at c1 c2 c3 hf1 c4 c5 c6 hf2
    have hd:decide ((s1,(z1,fs1))=((s2,(z2,fs2)):Doc))=(decide (s1=s2)&&decide ((z1,fs1)=((z2,fs2):Ev))):=by
     rw [Bool.eq_iff_iff,decide_eq_true_eq,Bool.and_eq_true,decide_eq_true_eq,decide_eq_true_eq]
     exact Prod.ext_iff
    rw [hd] at hnx
    have HN:=Lib.hid hnx
    have HLT:=Lib.hid hlt
    clear HI hu1 hv1 ha hb hnx hlt hd
    by_cases e:s1=s2
    ·have hn:=HN.out
     rw [decide_eq_true e,Bool.true_and] at hn
     have t1:(s1 != s2)=false:=by simp [e]
     have HN2:=Lib.hid hn
     clear HN hn e
     go_wp2_with fail
     refine RG.begin_ [(0,true),(1,true),(2,true),(3,true),(4,true),(5,true),(6,true),(7,true),(8,true),(9,true),(10,true),(11,true),(12,true),(13,true),(14,true),(15,true),(16,true),(17,true),(18,true),(19,true),(20,true),(21,true),(22,false),(23,true),(24,true)] (by kernel_rfl) (by kernel_rfl) rfl (by kernel_rfl) (fun _ _ d _ _ h=>by cases d<;>exact h) ?_
     simp only [RG.ordered,List.map_cons,List.map_nil,List.getElem?_toArray,List.getElem?_cons_succ,List.getElem?_cons_zero]
     obtain ⟨wd,hwd⟩:∃ wd,wr.drew=wd:=⟨_,rfl⟩
     have hbd:Below wr.heap.size wr wd:=by rw [← hwd];exact (Below.refl _ _).drew
     have G:=Lib.hid (fun W (hW:Below wd.heap.size wd W)=>(show W.cell? ⟨b1,o1+i*3,none⟩=some (.int .i64 s1)∧W.cell? ⟨b1,o1+i*3+1,none⟩=some (.int .i64 z1)∧W.cell? ⟨b1,o1+i*3+2,none⟩=some v1∧W.cell? ⟨b2,o2+i*3,none⟩=some (.int .i64 s2)∧W.cell? ⟨b2,o2+i*3+1,none⟩=some (.int .i64 z2)∧W.cell? ⟨b2,o2+i*3+2,none⟩=some v2 from
      ⟨((RG.Grew.trans hbd hW).cell (by simpa using hb1)).trans c1,((RG.Grew.trans hbd hW).cell (by simpa using hb1)).trans c2,((RG.Grew.trans hbd hW).cell (by simpa using hb1)).trans c3,((RG.Grew.trans hbd hW).cell (by simpa using hb2)).trans c4,((RG.Grew.trans hbd hW).cell (by simpa using hb2)).trans c5,((RG.Grew.trans hbd hW).cell (by simpa using hb2)).trans c6⟩))
     have HF1:=Lib.hid (RAny.below hf1.any hbd)
     have HF2:=Lib.hid (RAny.below hf2.any hbd)
     have HBD:=Lib.hid (HB.out.trans (hbd.mono HB.out.size))
     change RG.walk _ _ _ _ _ wr.drew
     rw [hwd]
     clear hwd hbd hf1 hf2 c1 c2 c3 c4 c5 c6 hb1 hb2
     repeat (refine RG.take (by rfl) (by intro W hW;obtain ⟨f1,f2,f3,f4,f5,f6⟩:=G.out W hW;go_simp;with_reducible rfl) ?_;simp only [Act.put,List.setIfInBounds_toArray,List.set_cons_zero,List.set_cons_succ])
     try simp only [t1]
     repeat (refine RG.take (by rfl) (by intro W hW;obtain ⟨f1,f2,f3,f4,f5,f6⟩:=G.out W hW;go_simp;with_reducible rfl) ?_;simp only [Act.put,List.setIfInBounds_toArray,List.set_cons_zero,List.set_cons_succ])
     obtain ⟨d,hd⟩:∃ d,decide ((z1,fs1)=((z2,fs2):Ev))=d:=⟨_,rfl⟩
     have hcall:=rsame_any z1 z2 _ _ fs1 fs2 _ HF1.out HF2.out
     rw [hd] at hcall
     have HCALL:=Lib.hid hcall
     have hn:=HN2.out
     rw [hd] at hn
     clear hd HN2 hcall
     have HN3:=Lib.hid hn
     clear hn
     refine RG.alone (by rfl) (fun K hK => ?_)
     go_simp
     refine HCALL.out.mono ?_
     rintro e w1 ⟨rfl,b1'⟩
     go_simp
     refine hK.out _ _ b1' ?_
     clear hK K
     have HB1:=Lib.hid (HBD.out.trans (b1'.mono HBD.out.size))
     clear b1'
     clear HCALL
     repeat (refine RG.take (by rfl) (by intro W hW;go_simp;with_reducible rfl) ?_;simp only [Act.put,List.setIfInBounds_toArray,List.set_cons_zero,List.set_cons_succ])
     refine RG.done ?_
     clear G HF1 HF2
     cases d with
     | true =>
       have hn:=HN3.out
       rw [Bool.true_and] at hn
       have HN4:=Lib.hid hn
       clear HN3 hn
       go_wp2_with fail
       have hlt:=HLT.out
       go_roundw
       case rel=>exact ⟨i+1,by omega,by go_num,HN4,HB1⟩
       case measure=>simp [intOf];omega
     | false =>
       have hn:=HN3.out
       rw [Bool.false_and] at hn
       subst hn
       clear HN3
       go_wp2_with fail
       go_ret
       exact ⟨rfl,HB1.out⟩
    ·have hn:=HN.out
     rw [decide_eq_false e,Bool.false_and] at hn
     have t1:(s1 != s2)=true:=by simp [e]
     subst hn
     clear HN e
     go_wp2_with fail
     refine RG.begin_ [(0,true),(1,true),(2,true),(3,true),(4,true),(5,true),(6,true),(7,true),(8,true),(9,true),(10,true),(11,true),(12,true),(13,true),(14,true),(15,true),(16,true),(17,true),(18,true),(19,true),(20,true),(21,true),(22,false),(23,true),(24,true)] (by kernel_rfl) (by kernel_rfl) rfl (by kernel_rfl) (fun _ _ d _ _ h=>by cases d<;>exact h) ?_
     simp only [RG.ordered,List.map_cons,List.map_nil,List.getElem?_toArray,List.getElem?_cons_succ,List.getElem?_cons_zero]
     obtain ⟨wd,hwd⟩:∃ wd,wr.drew=wd:=⟨_,rfl⟩
     have hbd:Below wr.heap.size wr wd:=by rw [← hwd];exact (Below.refl _ _).drew
     have G:=Lib.hid (fun W (hW:Below wd.heap.size wd W)=>(show W.cell? ⟨b1,o1+i*3,none⟩=some (.int .i64 s1)∧W.cell? ⟨b1,o1+i*3+1,none⟩=some (.int .i64 z1)∧W.cell? ⟨b1,o1+i*3+2,none⟩=some v1∧W.cell? ⟨b2,o2+i*3,none⟩=some (.int .i64 s2)∧W.cell? ⟨b2,o2+i*3+1,none⟩=some (.int .i64 z2)∧W.cell? ⟨b2,o2+i*3+2,none⟩=some v2 from
      ⟨((RG.Grew.trans hbd hW).cell (by simpa using hb1)).trans c1,((RG.Grew.trans hbd hW).cell (by simpa using hb1)).trans c2,((RG.Grew.trans hbd hW).cell (by simpa using hb1)).trans c3,((RG.Grew.trans hbd hW).cell (by simpa using hb2)).trans c4,((RG.Grew.trans hbd hW).cell (by simpa using hb2)).trans c5,((RG.Grew.trans hbd hW).cell (by simpa using hb2)).trans c6⟩))
     have HF1:=Lib.hid (RAny.below hf1.any hbd)
     have HF2:=Lib.hid (RAny.below hf2.any hbd)
     have HBD:=Lib.hid (HB.out.trans (hbd.mono HB.out.size))
     change RG.walk _ _ _ _ _ wr.drew
     rw [hwd]
     clear hwd hbd hf1 hf2 c1 c2 c3 c4 c5 c6 hb1 hb2
     repeat (refine RG.take (by rfl) (by intro W hW;obtain ⟨f1,f2,f3,f4,f5,f6⟩:=G.out W hW;go_simp;with_reducible rfl) ?_;simp only [Act.put,List.setIfInBounds_toArray,List.set_cons_zero,List.set_cons_succ])
     try simp only [t1]
     repeat (refine RG.skip (by rfl) ?_;simp only [Act.put,List.setIfInBounds_toArray,List.set_cons_zero,List.set_cons_succ])
     refine RG.alone_skip (by rfl) ?_
     simp only [Act.put,List.setIfInBounds_toArray,List.set_cons_zero,List.set_cons_succ]
     repeat (refine RG.skip (by rfl) ?_;simp only [Act.put,List.setIfInBounds_toArray,List.set_cons_zero,List.set_cons_succ])
     repeat (refine RG.take (by rfl) (by intro W hW;obtain ⟨f1,f2,f3,f4,f5,f6⟩:=G.out W hW;go_simp;with_reducible rfl) ?_;simp only [Act.put,List.setIfInBounds_toArray,List.set_cons_zero,List.set_cons_succ])
     refine RG.done ?_
     clear G HF1 HF2
     go_wp2_with fail
     go_ret
     exact ⟨rfl,HBD.out⟩
   ·obtain rfl:i=n:=by omega
    have q1:decide ((i:Int)<(i:Int))=false:=by simp
    have q2:decide (i<i)=false:=by simp
    have hf:RES=true:=by
     rw [← HI.out,List.drop_of_length_le (by rw [HNA.out];exact Nat.le_refl _),List.drop_of_length_le (by rw [HNB.out];exact Nat.le_refl _)]
     simp
    subst hf
    clear HI
    go_wp2_with fail
    go_ret
    exact ⟨rfl,HB.out⟩
 ·have t0:(((xs.length:Int)) != ((ys.length:Int)))=true:=by simp;omega
  have e:decide (xs=ys)=false:=decide_eq_false fun h=>hn (by rw [h])
  rw [e]
  clear hu hv e hn
  go_enter Tryz.func20,Tryz.ntmps20
  go_wp2_with fail
  go_ret
  exact ⟨rfl,Below.refl _ _⟩
end Go.Proofs.YtidhgicajlaafaaGreat.EV
