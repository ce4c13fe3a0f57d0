import Derived.Test.YtdfibahafilklaaGreatDoorZB24
set_option maxRecDepth 100000
set_option maxHeartbeats 8000000
set_option linter.unusedVariables false
set_option linter.unusedSimpArgs false
namespace Go.Proofs.YtdfibahafilklaaGreatDoor.EV
open Go Go.RowKit MM EM
def btBox (w:World) (z:Int) (v:Value):World:=w.alloc (.cells #[.int .i64 z,v] 82)
theorem btbox_below (w:World) (z:Int) (v:Value):Below w.heap.size w (btBox w z v):=(Below.refl _ _).alloc (Nat.le_refl _) _
theorem btbox_size (w:World) (z:Int) (v:Value):(btBox w z v).heap.size=w.heap.size+1:=by unfold btBox;simp
theorem btbox_in {w wr:World} {z:Int} {v:Value} (h:Below (btBox w z v).heap.size (btBox w z v) wr):wr.cell? ⟨w.heap.size,0,none⟩=some (.int .i64 z)∧wr.cell? ⟨w.heap.size,1,none⟩=some v∧Below w.heap.size w wr :=
 ⟨(h.cell (p:=⟨w.heap.size,0,none⟩) (by rw [btbox_size];simp)).trans (new_two w _ _ _).1,(h.cell (p:=⟨w.heap.size,1,none⟩) (by rw [btbox_size];simp)).trans (new_two w _ _ _).2,(btbox_below w z v).trans (h.mono (by rw [btbox_size];omega))⟩
theorem cbatch_any (seq:Int) (v:Value) (es:List Ev) (w:World) (hr:RAny evC w v es):Calls Tryz.prog 100 #[.agg #[.int .i64 seq,v]] w (IntLeft (checkB (seq,es)) w):=by
 obtain ⟨p,cap,rfl,hlc,hcm,_⟩:=hr.shape
 unfold maxLen at hcm
 have HB:=Lib.hid (Below.refl (btBox w seq (.slice p es.length cap)).heap.size (btBox w seq (.slice p es.length cap)))
 have HW:=Lib.hid (btbox_below w seq (.slice p es.length cap))
 by_cases hz:es.length=0
 ·have e:checkB (seq,es)=1:=by unfold checkB;rw [if_pos hz]
  rw [e]
  have t1:((es.length:Int) == 0)=true:=by rw [beq_iff_eq];omega
  clear e hr hz
  go_enter Tryz.func100,Tryz.ntmps100
  go_wp2_with fail
  go_ret
  exact ⟨rfl,HW.out⟩
 ·have t1:((es.length:Int) == 0)=false:=by rw [beq_eq_false_iff_ne];omega
  by_cases h64:64<es.length
  ·have e:checkB (seq,es)=3:=by unfold checkB;rw [if_neg hz,if_pos h64]
   rw [e]
   have t2:decide ((es.length:Int)>64)=true:=by rw [decide_eq_true_eq];omega
   clear e hr hz h64
   go_enter Tryz.func100,Tryz.ntmps100
   go_wp2_with fail
   go_ret
   exact ⟨rfl,HW.out⟩
  ·have t2:decide ((es.length:Int)>64)=false:=by rw [decide_eq_false_iff_not];omega
   obtain ⟨RES,hRES⟩:∃ R,checkB (seq,es)=R:=⟨_,rfl⟩
   obtain ⟨CE,hCE⟩:∃ c,checkEs es=c:=⟨_,rfl⟩
   have hne:CE≠0→CE=RES:=fun h=>by rw [← hRES];unfold checkB;rw [if_neg hz,if_neg h64,hCE,if_pos h]
   have hfin:CE=0→RES=if 65536<sizeB es then 2 else if seq<1∨1099511627776 - ((es.length:Int) - 1)<seq then 5 else 0:=fun h=>by rw [← hRES];unfold checkB;rw [if_neg hz,if_neg h64,if_neg (by rw [hCE];simpa using h)]
   rw [hRES]
   have HNE:=Lib.hid hne
   have HFIN:=Lib.hid hfin
   have H0:Hid (checkEs (es.drop 0)=CE):=Lib.hid hCE
   have HS0:Hid (sizeB (es.take 0)=0):=Lib.hid (by simp [sizeB])
   have HR:=Lib.hid hr
   have h64':es.length≤64:=by omega
   have hz':1≤es.length:=by omega
   clear hne hfin hCE hRES hz h64 hr
   go_enter Tryz.func100,Tryz.ntmps100
   go_wp2_with fail
   go_loopw [4,20] (fun sv iv wr=>∃ (i s:Nat),i≤es.length∧s≤i*70000∧iv=.int .i64 i∧sv=.int .i64 s∧Hid (checkEs (es.drop i)=CE)∧Hid (sizeB (es.take i)=s)∧Hid (Below (btBox w seq (.slice p es.length cap)).heap.size (btBox w seq (.slice p es.length cap)) wr)) (fun _ iv _=>es.length - (intOf iv).toNat)
   case atStart=>exact ⟨0,0,by omega,by omega,rfl,rfl,H0,HS0,HB⟩
   case round =>
    obtain ⟨i,s,hi,hs,rfl,rfl,HI,HSZ,HB1⟩:=hrel
    clear H0 HS0 HB
    obtain ⟨cq,cb,hbw⟩:=btbox_in HB1.out
    by_cases hlt:i<es.length
    ·have q1:decide ((i:Int)<(es.length:Int))=true:=by rw [decide_eq_true_eq];omega
     have q2:decide (i<es.length)=true:=by rw [decide_eq_true_eq];omega
     obtain ⟨b,off,vf,rfl,hbl,_,c1,c2,hf⟩:=ev_at (HR.out.below hbw) hlt
     have hnx:=HI.out
     rw [checkEs_next hlt] at hnx
     have hsn:=sizeB_next hlt
     rw [HSZ.out] at hsn
     obtain ⟨⟨z,fs⟩,hz2⟩:∃ e,es[i]=e:=⟨_,rfl⟩
     rw [hz2] at c1 hf hnx hsn
     change ROn fldC _ wr vf fs at hf
     change wr.cell? ⟨b,off+i*2,none⟩=some (.int .i64 z) at c1
     obtain ⟨pf,cf,rfl,_⟩:=hf.shape
     obtain ⟨c,hc⟩:∃ c,checkE (z,fs)=c:=⟨_,rfl⟩
     have HNX:=Lib.hid hnx
     have HSN:=Lib.hid hsn
     have HLT:=Lib.hid hlt
     have HF:=Lib.hid hf
     have HC:=Lib.hid hc
     have hb0:Below wr.heap.size wr (wr.alloc (.cells #[.int .i64 z,.slice pf fs.length cf] 87)):=(Below.refl _ _).alloc (Nat.le_refl _) _
     have hck:=check_any z _ fs _ (RAny.below hf hb0)
     rw [hc] at hck
     have HCK:=Lib.hid hck
     have HB0:=Lib.hid hb0
     have hwr:=HB1.out.size
     clear hnx hsn hz2 hf hck hc hb0 HI HSZ hlt hbw
     go_wp2_with fail
     refine HCK.out.mono ?_
     rintro e w2 ⟨rfl,hb2⟩
     have HB2:=Lib.hid (HB1.out.trans ((grow HB0.out hb2).mono hwr))
     have n0:w2.cell? ⟨wr.heap.size,0,none⟩=some (.int .i64 z):=(hb2.cell (p:=⟨wr.heap.size,0,none⟩) (by simp)).trans (new_two wr _ _ _).1
     have n1:w2.cell? ⟨wr.heap.size,1,none⟩=some (.slice pf fs.length cf):=(hb2.cell (p:=⟨wr.heap.size,1,none⟩) (by simp)).trans (new_two wr _ _ _).2
     have HF2:=Lib.hid (RAny.below HF.out (grow HB0.out hb2))
     clear hb2 HCK c1 c2 cq cb
     by_cases h0:c=0
     ·subst h0
      have hok:=checkE_ok.1 HC.out
      have hsf:sizeF fs≤4128*fs.length:=sizeF_of_ok hok.2
      have hk16:fs.length≤16:=hok.1
      have hnx:=HNX.out
      rw [if_neg (by rw [HC.out];simp)] at hnx
      have HN2:=Lib.hid hnx
      have hm:16+sizeF fs≤70000:=by omega
      have hsw:sizeW fs=((16+sizeF fs:Nat):Int):=sizeW_small (by omega)
      have hsz:=size_any z _ fs _ HF2.out
      rw [hsw] at hsz
      have hsn:=HSN.out
      change sizeB (es.take (i+1))=s+(16+sizeF fs) at hsn
      generalize 16+sizeF fs=m at *
      have HSZ2:=Lib.hid hsz
      have HSN2:=Lib.hid hsn
      clear hok hsf hnx hsw hsz hsn HSN HNX HC
      go_wp2_with fail
      refine HSZ2.out.mono ?_
      rintro e w3 ⟨rfl,hb3⟩
      have HB3:=Lib.hid (HB2.out.trans (hb3.mono HB2.out.size))
      clear hb3 HSZ2 n0 n1
      go_wp2_with fail
      have hlt:=HLT.out
      go_roundw
      case rel=>exact ⟨i+1,s+m,by omega,by omega,by go_num,by go_num,HN2,HSN2,HB3⟩
      case measure=>simp [intOf];omega
     ·have q3:(c != 0)=true:=by simp [h0]
      have hnx:=HNX.out
      rw [if_pos (by rw [HC.out];exact h0),HC.out] at hnx
      subst hnx
      have hce:=HNE.out h0
      subst hce
      clear h0
      go_wp2_with fail
      go_ret
      exact ⟨rfl,(btbox_in HB2.out).2.2⟩
    ·obtain rfl:i=es.length:=by omega
     have q1:decide ((es.length:Int)<(es.length:Int))=false:=by simp
     have q2:decide (es.length<es.length)=false:=by simp
     have hce:=HI.out
     rw [List.drop_length] at hce
     have hce:(0:Int)=CE:=hce
     subst hce
     have hfin:=HFIN.out rfl
     have hsz:=HSZ.out
     rw [List.take_length] at hsz
     rw [hsz] at hfin
     have HBW:=Lib.hid hbw
     clear hlt HI HSZ hbw hsz
     by_cases hbig:65536<s
     ·rw [if_pos hbig] at hfin
      subst hfin
      have q3:decide ((s:Int)>65536)=true:=by rw [decide_eq_true_eq];omega
      clear hbig
      go_wp2_with fail
      go_ret
      exact ⟨rfl,HBW.out⟩
     ·rw [if_neg hbig] at hfin
      have q3:decide ((s:Int)>65536)=false:=by rw [decide_eq_false_iff_not];omega
      by_cases hlo:seq<1
      ·rw [if_pos (.inl hlo)] at hfin
       subst hfin
       have q4:decide (seq<1)=true:=by rw [decide_eq_true_eq];exact hlo
       clear hbig hlo
       go_wp2_with fail
       go_ret
       exact ⟨rfl,HBW.out⟩
      ·have q4:decide (seq<1)=false:=by rw [decide_eq_false_iff_not];exact hlo
       by_cases hhi:1099511627776 - ((es.length:Int) - 1)<seq
       ·rw [if_pos (.inr hhi)] at hfin
        subst hfin
        have q5:decide (seq>1099511627776 - ((es.length:Int) - 1))=true:=by rw [decide_eq_true_eq];exact hhi
        clear hbig hlo hhi
        go_wp2_with fail
        go_ret
        exact ⟨rfl,HBW.out⟩
       ·rw [if_neg (by omega)] at hfin
        subst hfin
        have q5:decide (seq>1099511627776 - ((es.length:Int) - 1))=false:=by rw [decide_eq_false_iff_not];exact hhi
        clear hbig hlo hhi
        go_wp2_with fail
        go_ret
        exact ⟨rfl,HBW.out⟩
theorem rcbatch_any (seq:Int) (v:Value) (es:List Ev) (w:World) (hr:RAny evC w v es):Calls Tryz.prog 98 #[.agg #[.int .i64 seq,v]] w (IntLeft (checkB (seq,es)) w):=by
 obtain ⟨p,cap,rfl,hlc,hcm,_⟩:=hr.shape
 unfold maxLen at hcm
 have HB:=Lib.hid (Below.refl (btBox w seq (.slice p es.length cap)).heap.size (btBox w seq (.slice p es.length cap)))
 have HW:=Lib.hid (btbox_below w seq (.slice p es.length cap))
 by_cases hz:es.length=0
 ·have e:checkB (seq,es)=1:=by unfold checkB;rw [if_pos hz]
  rw [e]
  have t1:((es.length:Int) == 0)=true:=by rw [beq_iff_eq];omega
  clear e hr hz
  go_enter Tryz.func98,Tryz.ntmps98
  go_wp2_with fail
  go_ret
  exact ⟨rfl,HW.out⟩
 ·have t1:((es.length:Int) == 0)=false:=by rw [beq_eq_false_iff_ne];omega
  by_cases h64:64<es.length
  ·have e:checkB (seq,es)=3:=by unfold checkB;rw [if_neg hz,if_pos h64]
   rw [e]
   have t2:decide ((es.length:Int)>64)=true:=by rw [decide_eq_true_eq];omega
   clear e hr hz h64
   go_enter Tryz.func98,Tryz.ntmps98
   go_wp2_with fail
   go_ret
   exact ⟨rfl,HW.out⟩
  ·have t2:decide ((es.length:Int)>64)=false:=by rw [decide_eq_false_iff_not];omega
   obtain ⟨RES,hRES⟩:∃ R,checkB (seq,es)=R:=⟨_,rfl⟩
   obtain ⟨CE,hCE⟩:∃ c,checkEs es=c:=⟨_,rfl⟩
   have hne:CE≠0→CE=RES:=fun h=>by rw [← hRES];unfold checkB;rw [if_neg hz,if_neg h64,hCE,if_pos h]
   have hfin:CE=0→RES=if 65536<sizeB es then 2 else if seq<1∨1099511627776 - ((es.length:Int) - 1)<seq then 5 else 0:=fun h=>by rw [← hRES];unfold checkB;rw [if_neg hz,if_neg h64,if_neg (by rw [hCE];simpa using h)]
   rw [hRES]
   have HNE:=Lib.hid hne
   have HFIN:=Lib.hid hfin
   have H0:Hid (checkEs (es.drop 0)=CE):=Lib.hid hCE
   have HS0:Hid (sizeB (es.take 0)=0):=Lib.hid (by simp [sizeB])
   have HR:=Lib.hid hr
   have h64':es.length≤64:=by omega
   have hz':1≤es.length:=by omega
   clear hne hfin hCE hRES hz h64 hr
   go_enter Tryz.func98,Tryz.ntmps98
   go_wp2_with fail
   go_loopw [3,4] (fun sv iv wr=>∃ (i s:Nat),i≤es.length∧s≤i*70000∧iv=.int .i64 i∧sv=.int .i64 s∧Hid (checkEs (es.drop i)=CE)∧Hid (sizeB (es.take i)=s)∧Hid (Below (btBox w seq (.slice p es.length cap)).heap.size (btBox w seq (.slice p es.length cap)) wr)) (fun _ iv _=>es.length - (intOf iv).toNat)
   case atStart=>exact ⟨0,0,by omega,by omega,rfl,rfl,H0,HS0,HB⟩
   case round =>
    obtain ⟨i,s,hi,hs,rfl,rfl,HI,HSZ,HB1⟩:=hrel
    clear H0 HS0 HB
    obtain ⟨cq,cb,hbw⟩:=btbox_in HB1.out
    by_cases hlt:i<es.length
    ·have q1:decide ((i:Int)<(es.length:Int))=true:=by rw [decide_eq_true_eq];omega
     have q2:decide (i<es.length)=true:=by rw [decide_eq_true_eq];omega
     obtain ⟨b,off,vf,rfl,hbl,_,c1,c2,hf⟩:=ev_at (HR.out.below hbw) hlt
     have hnx:=HI.out
     rw [checkEs_next hlt] at hnx
     have hsn:=sizeB_next hlt
     rw [HSZ.out] at hsn
     obtain ⟨⟨z,fs⟩,hz2⟩:∃ e,es[i]=e:=⟨_,rfl⟩
     rw [hz2] at c1 hf hnx hsn
     change ROn fldC _ wr vf fs at hf
     change wr.cell? ⟨b,off+i*2,none⟩=some (.int .i64 z) at c1
     obtain ⟨pf,cf,rfl,_⟩:=hf.shape
     obtain ⟨c,hc⟩:∃ c,checkE (z,fs)=c:=⟨_,rfl⟩
     have HNX:=Lib.hid hnx
     have HSN:=Lib.hid hsn
     have HLT:=Lib.hid hlt
     have HF:=Lib.hid hf
     have HC:=Lib.hid hc
     have hck:=rcheck_any z _ fs _ hf
     rw [hc] at hck
     have HCK:=Lib.hid hck
     have hwr:=HB1.out.size
     rw [btbox_size] at hwr
     clear hnx hsn hz2 hf hck hc HI HSZ hlt
     go_wp2_with fail
     refine HCK.out.mono ?_
     rintro e w2 ⟨rfl,hb2⟩
     have HB2:=Lib.hid (HB1.out.trans (hb2.mono (by rw [btbox_size];omega)))
     have n0:=(hb2.cell (p:=⟨b,off+i*2,none⟩) hbl).trans c1
     have n1:=(hb2.cell (p:=⟨b,off+i*2+1,none⟩) hbl).trans c2
     have n2:w2.cell? ⟨w.heap.size,1,none⟩=some (.slice (some ⟨b,off,none⟩) es.length cap):=(hb2.cell (p:=⟨w.heap.size,1,none⟩) (show w.heap.size<wr.heap.size by omega)).trans cb
     have HF2:=Lib.hid (RAny.below HF.out hb2)
     clear hb2 HCK c1 c2 cq cb hbw
     by_cases h0:c=0
     ·subst h0
      have hok:=checkE_ok.1 HC.out
      have hsf:sizeF fs≤4128*fs.length:=sizeF_of_ok hok.2
      have hk16:fs.length≤16:=hok.1
      have hnx:=HNX.out
      rw [if_neg (by rw [HC.out];simp)] at hnx
      have HN2:=Lib.hid hnx
      have hm:16+sizeF fs≤70000:=by omega
      have hsw:sizeW fs=((16+sizeF fs:Nat):Int):=sizeW_small (by omega)
      have hsz:=rsize_any z _ fs _ HF2.out
      rw [hsw] at hsz
      have hsn:=HSN.out
      change sizeB (es.take (i+1))=s+(16+sizeF fs) at hsn
      generalize 16+sizeF fs=m at *
      have HSZ2:=Lib.hid hsz
      have HSN2:=Lib.hid hsn
      clear hok hsf hnx hsw hsz hsn HSN HNX HC
      go_wp2_with fail
      refine HSZ2.out.mono ?_
      rintro e w3 ⟨rfl,hb3⟩
      have HB3:=Lib.hid (HB2.out.trans (hb3.mono HB2.out.size))
      clear hb3 HSZ2 n0 n1
      go_wp2_with fail
      have hlt:=HLT.out
      go_roundw
      case rel=>exact ⟨i+1,s+m,by omega,by omega,by go_num,by go_num,HN2,HSN2,HB3⟩
      case measure=>simp [intOf];omega
     ·have q3:(c != 0)=true:=by simp [h0]
      have hnx:=HNX.out
      rw [if_pos (by rw [HC.out];exact h0),HC.out] at hnx
      subst hnx
      have hce:=HNE.out h0
      subst hce
      clear h0
      go_wp2_with fail
      go_ret
      exact ⟨rfl,(btbox_in HB2.out).2.2⟩
    ·obtain rfl:i=es.length:=by omega
     have q1:decide ((es.length:Int)<(es.length:Int))=false:=by simp
     have q2:decide (es.length<es.length)=false:=by simp
     have hce:=HI.out
     rw [List.drop_length] at hce
     have hce:(0:Int)=CE:=hce
     subst hce
     have hfin:=HFIN.out rfl
     have hsz:=HSZ.out
     rw [List.take_length] at hsz
     rw [hsz] at hfin
     have HBW:=Lib.hid hbw
     clear hlt HI HSZ hbw hsz
     by_cases hbig:65536<s
     ·rw [if_pos hbig] at hfin
      subst hfin
      have q3:decide ((s:Int)>65536)=true:=by rw [decide_eq_true_eq];omega
      clear hbig
      go_wp2_with fail
      go_ret
      exact ⟨rfl,HBW.out⟩
     ·rw [if_neg hbig] at hfin
      have q3:decide ((s:Int)>65536)=false:=by rw [decide_eq_false_iff_not];omega
      by_cases hlo:seq<1
      ·rw [if_pos (.inl hlo)] at hfin
       subst hfin
       have q4:decide (seq<1)=true:=by rw [decide_eq_true_eq];exact hlo
       clear hbig hlo
       go_wp2_with fail
       go_ret
       exact ⟨rfl,HBW.out⟩
      ·have q4:decide (seq<1)=false:=by rw [decide_eq_false_iff_not];exact hlo
       by_cases hhi:1099511627776 - ((es.length:Int) - 1)<seq
       ·rw [if_pos (.inr hhi)] at hfin
        subst hfin
        have q5:decide (seq>1099511627776 - ((es.length:Int) - 1))=true:=by rw [decide_eq_true_eq];exact hhi
        clear hbig hlo hhi
        go_wp2_with fail
        go_ret
        exact ⟨rfl,HBW.out⟩
       ·rw [if_neg (by omega)] at hfin
        subst hfin
        have q5:decide (seq>1099511627776 - ((es.length:Int) - 1))=false:=by rw [decide_eq_false_iff_not];exact hhi
        clear hbig hlo hhi
        go_wp2_with fail
        go_ret
        exact ⟨rfl,HBW.out⟩
end Go.Proofs.YtdfibahafilklaaGreatDoor.EV
