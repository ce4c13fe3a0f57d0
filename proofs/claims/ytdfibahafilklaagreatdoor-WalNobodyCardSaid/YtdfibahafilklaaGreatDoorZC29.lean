import Derived.Test.YtdfibahafilklaaGreatDoorZC28
set_option maxRecDepth 100000
set_option maxHeartbeats 8000000
set_option linter.unusedVariables false
set_option linter.unusedSimpArgs false
namespace Go.Proofs.YtdfibahafilklaaGreatDoor.EV
open Go Go.RowKit MM EM
def btBox (w:World) (z:Int) (v:Value):World:=w.alloc (.cells #[.int .i64 z,v] 82)
theorem btbox_below (w:World) (z:Int) (v:Value):Below w.heap.size w (btBox w z v):=(Below.refl _ _).alloc (Nat.le_refl _) _
theorem btbox_size (w:World) (z:Int) (v:Value):(btBox w z v).heap.size=w.heap.size+1:=by unfold btBox;simp
theorem btbox_in {w wr:World} {z:Int} {v:Value} (h:Below (btBox w z v).heap.size (btBox w z v) wr):wr.cell? ⟨w.heap.size,0,none⟩=some (.int .i64 z)∧wr.cell? ⟨w.heap.size,1,none⟩=some v∧Below w.heap.size w wr :=
 ⟨(h.cell (p:=⟨w.heap.size,0,none⟩) (by rw [btbox_size];simp)).trans (new_two w _ _ _).1,(h.cell (p:=⟨w.heap.size,1,none⟩) (by rw [btbox_size];simp)).trans (new_two w _ _ _).2,(btbox_below w z v).trans (h.mono (by rw [btbox_size];omega))⟩
theorem cbatch_any (seq:Int) (v:Value) (es:List Ev) (w:World) (hr:RAny evC w v es):Calls Tryz.prog 100 #[.agg #[.int .i64 seq,v]] w (IntLeft (checkB (seq,es)) w):=by
 obtain ⟨p,cap,rfl,hlc,hcm,_⟩:=hr.shape
 unfold maxLen at hcm
 have HB:=Lib.hid (Below.refl (btBox w seq (.slice p es.length cap)).heap.size (btBox w seq (.slice p es.length cap)))
 have HW:=Lib.hid (btbox_below w seq (.slice p es.length cap))
 by_cases hz:es.length=0
 ·have e:checkB (seq,es)=1:=by unfold checkB;rw [if_pos hz]
  rw [e]
  have t1:((es.length:Int) == 0)=true:=by rw [beq_iff_eq];omega
  clear e hr hz
  go_enter Tryz.func100,Tryz.ntmps100
  go_wp2_with fail
  go_ret
  exact ⟨rfl,HW.out⟩
 ·have t1:((es.length:Int) == 0)=false:=by rw [beq_eq_false_iff_ne];omega
  by_cases h64:64<es.length
  ·have e:checkB (seq,es)=3:=by unfold checkB;rw [if_neg hz,if_pos h64]
   rw [e]
   have t2:decide ((es.length:Int)>64)=true:=by rw [decide_eq_true_eq];omega
   clear e hr hz h64
   go_enter Tryz.func100,Tryz.ntmps100
   go_wp2_with fail
   go_ret
   exact ⟨rfl,HW.out⟩
  ·have t2:decide ((es.length:Int)>64)=false:=by rw [decide_eq_false_iff_not];omega
   obtain ⟨RES,hRES⟩:∃ R,checkB (seq,es)=R:=⟨_,rfl⟩
   obtain ⟨CE,hCE⟩:∃ c,checkEs es=c:=⟨_,rfl⟩
   have hne:CE≠0→CE=RES:=fun h=>by rw [← hRES];unfold checkB;rw [if_neg hz,if_neg h64,hCE,if_pos h]
   have hfin:CE=0→RES=if 65536<sizeB es then 2 else if seq<1∨1099511627776 - ((es.length:Int) - 1)<seq then 5 else 0:=fun h=>by rw [← hRES];unfold checkB;rw [if_neg hz,if_neg h64,if_neg (by rw [hCE];simpa using h)]
   rw [hRES]
   have HNE:=Lib.hid hne
   have HFIN:=Lib.hid hfin
   have H0:Hid (checkEs (es.drop 0)=CE):=Lib.hid hCE
   have HS0:Hid (sizeB (es.take 0)=0):=Lib.hid (by simp [sizeB])
   have HR:=Lib.hid hr
   have h64':es.length≤64:=by omega
   have hz':1≤es.length:=by omega
   clear hne hfin hCE hRES hz h64 hr
   go_enter Tryz.func100,Tryz.ntmps100
   go_wp2_with fail
   go_loopw [4,20] (fun sv iv wr=>∃ (i s:Nat),i≤es.length∧s≤i*70000∧iv=.int .i64 i∧sv=.int .i64 s∧Hid (checkEs (es.drop i)=CE)∧Hid (sizeB (es.take i)=s)∧Hid (Below (btBox w seq (.slice p es.length cap)).heap.size (btBox w seq (.slice p es.length cap)) wr)) (fun _ iv _=>es.length - (intOf iv).toNat)
   case atStart=>exact ⟨0,0,by omega,by omega,rfl,rfl,H0,HS0,HB⟩
   case round =>
    obtain ⟨i,s,hi,hs,rfl,rfl,HI,HSZ,HB1⟩:=hrel
    clear H0 HS0 HB
    obtain ⟨cq,cb,hbw⟩:=btbox_in HB1.out
    by_cases hlt:i<es.length
    ·have q1:decide ((i:Int)<(es.length:Int))=true:=by rw [decide_eq_true_eq];omega
     have q2:decide (i<es.length)=true:=by rw [decide_eq_true_eq];omega
     obtain ⟨b,off,vf,rfl,hbl,_,c1,c2,hf⟩:=ev_at (HR.out.below hbw) hlt
     have hnx:=HI.out
     rw [checkEs_next hlt] at hnx
     have hsn:=sizeB_next hlt
     rw [HSZ.out] at hsn
     obtain ⟨⟨z,fs⟩,hz2⟩:∃ e,es[i]=e:=⟨_,rfl⟩
     rw [hz2] at c1 hf hnx hsn
     change ROn fldC _ wr vf fs at hf
     change wr.cell? ⟨b,off+i*2,none⟩=some (.int .i64 z) at c1
     obtain ⟨pf,cf,rfl,_⟩:=hf.shape
     obtain ⟨c,hc⟩:∃ c,checkE (z,fs)=c:=⟨_,rfl⟩
     have HNX:=Lib.hid hnx
     have HSN:=Lib.hid hsn
     have HLT:=Lib.hid hlt
     have HF:=Lib.hid hf
     have HC:=Lib.hid hc
     have hb0:Below wr.heap.size wr (wr.alloc (.cells #[.int .i64 z,.slice pf fs.length cf] 87)):=(Below.refl _ _).alloc (Nat.le_refl _) _
     have hck:=check_any z _ fs _ (RAny.below hf hb0)
     rw [hc] at hck
     have HCK:=Lib.hid hck
     have HB0:=Lib.hid hb0
     have hwr:=HB1.out.size
     clear hnx hsn hz2 hf hck hc hb0 HI HSZ hlt hbw
     go_wp2_with fail
     refine HCK.out.mono ?_
     rintro e w2 ⟨rfl,hb2⟩
     have HB2:=Lib.hid (HB1.out.trans ((grow HB0.out hb2).mono hwr))
     have n0:w2.cell? ⟨wr.heap.size,0,none⟩=some (.int .i64 z):=(hb2.cell (p:=⟨wr.heap.size,0,none⟩) (by simp)).trans (new_two wr _ _ _).1
     have n1:w2.cell? ⟨wr.heap.size,1,none⟩=some (.slice pf fs.length cf):=(hb2.cell (p:=⟨wr.heap.size,1,none⟩) (by simp)).trans (new_two wr _ _ _).2
     have HF2:=Lib.hid (RAny.below HF.out (grow HB0.out hb2))
     clear hb2 HCK c1 c2 cq cb
     by_cases h0:c=0
     ·subst h0
      have hok:=checkE_ok.1 HC.out
      have hsf:sizeF fs≤4128*fs.length:=sizeF_of_ok hok.2
      have hk16:fs.length≤16:=hok.1
      have hnx:=HNX.out
      rw [if_neg (by rw [HC.out];simp)] at hnx
      have HN2:=Lib.hid hnx
      have hm:16+sizeF fs≤70000:=by omega
      have hsw:sizeW fs=((16+sizeF fs:Nat):Int):=sizeW_small (by omega)
      have hsz:=size_any z _ fs _ HF2.out
      rw [hsw] at hsz
      have hsn:=HSN.out
      change sizeB (es.take (i+1))=s+(16+sizeF fs) at hsn
      generalize 16+sizeF fs=m at *
      have HSZ2:=Lib.hid hsz
      have HSN2:=Lib.hid hsn
      clear hok hsf hnx hsw hsz hsn HSN HNX HC
      go_wp2_with fail
      refine HSZ2.out.mono ?_
      rintro e w3 ⟨rfl,hb3⟩
      have HB3:=Lib.hid (HB2.out.trans (hb3.mono HB2.out.size))
      clear hb3 HSZ2 n0 n1
      go_wp2_with fail
      have hlt:=HLT.out
      go_roundw
      case rel=>exact ⟨i+1,s+m,by omega,by omega,by go_num,by go_num,HN2,HSN2,HB3⟩
      case measure=>simp [intOf];omega
     ·have q3:(c != 0)=true:=by simp [h0]
      have hnx:=HNX.out
      rw [if_pos (by rw [HC.out];exact h0),HC.out] at hnx
      subst hnx
      have hce:=HNE.out h0
      subst hce
      clear h0
      go_wp2_with fail
      go_ret
      exact ⟨rfl,(btbox_in HB2.out).2.2⟩
    ·obtain rfl:i=es.length:=by omega
     have q1:decide ((es.length:Int)<(es.length:Int))=false:=by simp
     have q2:decide (es.length<es.length)=false:=by simp
     have hce:=HI.out
     rw [List.drop_length] at hce
     have hce:(0:Int)=CE:=hce
     subst hce
     have hfin:=HFIN.out rfl
     have hsz:=HSZ.out
     rw [List.take_length] at hsz
     rw [hsz] at hfin
     have HBW:=Lib.hid hbw
     clear hlt HI HSZ hbw hsz
     by_cases hbig:65536<s
     ·rw [if_pos hbig] at hfin
      subst hfin
      have q3:decide ((s:Int)>65536)=true:=by rw [decide_eq_true_eq];omega
      clear hbig
      go_wp2_with fail
      go_ret
      exact ⟨rfl,HBW.out⟩
     ·rw [if_neg hbig] at hfin
      have q3:decide ((s:Int)>65536)=false:=by rw [decide_eq_false_iff_not];omega
      by_cases hlo:seq<1
      ·rw [if_pos (.inl hlo)] at hfin
       subst hfin
       have q4:decide (seq<1)=true:=by rw [decide_eq_true_eq];exact hlo
       clear hbig hlo
       go_wp2_with fail
       go_ret
       exact ⟨rfl,HBW.out⟩
      ·have q4:decide (seq<1)=false:=by rw [decide_eq_false_iff_not];exact hlo
       by_cases hhi:1099511627776 - ((es.length:Int) - 1)<seq
       ·rw [if_pos (.inr hhi)] at hfin
        subst hfin
        have q5:decide (seq>1099511627776 - ((es.length:Int) - 1))=true:=by rw [decide_eq_true_eq];exact hhi
        clear hbig hlo hhi
        go_wp2_with fail
        go_ret
        exact ⟨rfl,HBW.out⟩
       ·rw [if_neg (by omega)] at hfin
        subst hfin
        have q5:decide (seq>1099511627776 - ((es.length:Int) - 1))=false:=by rw [decide_eq_false_iff_not];exact hhi
        clear hbig hlo hhi
        go_wp2_with fail
        go_ret
        exact ⟨rfl,HBW.out⟩
end Go.Proofs.YtdfibahafilklaaGreatDoor.EV
namespace Go.Proofs.YtdfibahafilklaaGreatDoor.EV
open Go Go.RowKit MM EM
def BoolLeft (b:Bool) (w:World) (e:Ending) (w':World):Prop:=e=.returned (.bool b)∧Below w.heap.size w w'
theorem drop_same {α:Type} [DecidableEq α] {a b:List α} {i:Nat} (ha:i<a.length) (hb:i<b.length):decide (a.drop i=b.drop i)=(decide (a[i]=b[i])&&decide (a.drop (i+1)=b.drop (i+1))):=by
 rw [List.drop_eq_getElem_cons ha,List.drop_eq_getElem_cons hb]
 rw [Bool.eq_iff_iff,decide_eq_true_eq,Bool.and_eq_true,decide_eq_true_eq,decide_eq_true_eq,List.cons.injEq]
theorem eq_fld (X1 X2 Y1 Y2:List UInt8) (W:World):(Op.equalIn 10000 84 (.agg #[.string ⟨X1.toArray⟩,.string ⟨X2.toArray⟩]) (.agg #[.string ⟨Y1.toArray⟩,.string ⟨Y2.toArray⟩])).run Tryz.prog W=.ok (decide (X1=Y1)&&decide (X2=Y2)) W:=by
 have s1:=same_list X1 Y1
 have s2:=same_list X2 Y2
 have ht:Tryz.prog.underlying 84=some (.struct (Tryz.prog.fieldsOf 84)):=by kernel_rfl
 have hp:Tryz.prog.stoodInHeld 84=false:=by kernel_rfl
 have hf:(Tryz.prog.fieldsOf 84).toList.map (fun f=>(f.name == "_", f.type,f.offset))=[(false,9,0),(false,9,1)]:=by kernel_rfl
 rw [show (10000:Nat)=9998+1+1 from rfl,run_equalIn_struct W _ _ _ _ ht hp]
 generalize (Tryz.prog.fieldsOf 84).toList=fs at hf
 obtain ⟨f0,f1,rfl⟩:∃ a b,fs=[a,b]:=by
  have hl:=congrArg List.length hf
  rw [List.length_map] at hl
  match fs,hl with
  | [a,b],_=>exact ⟨a,b,rfl⟩
 simp only [List.map_cons,List.map_nil,List.cons.injEq,Prod.mk.injEq,and_true] at hf
 obtain ⟨⟨n0,t0,o0⟩,⟨n1,t1,o1⟩⟩:=hf
 have n0:f0.name ≠ "_" := by simpa using n0
 have n1:f1.name ≠ "_" := by simpa using n1
 have a9:=Tryz.isAgg9
 have z9:=Tryz.sizeOf9
 have u9:=Tryz.underlying9
 simp only [Op.eqFields,n0,n1,t0,t1,o0,o1,ne_eq,not_false_eq_true,if_true]
 go_simp
 by_cases h1:X1=Y1<;>by_cases h2:X2=Y2<;>simp [s1,s2,h1,h2]
theorem two_boxes (w:World) (z1 z2:Int) (u v:Value):Below w.heap.size w (evBox (evBox w z1 u) z2 v):=(box_below w z1 u).trans ((box_below _ z2 v).mono (by rw [box_size];omega))
theorem boxes_in {w wr:World} {z1 z2:Int} {u v:Value} (h:Below (evBox (evBox w z1 u) z2 v).heap.size (evBox (evBox w z1 u) z2 v) wr) :
  wr.cell? ⟨w.heap.size,0,none⟩=some (.int .i64 z1)∧wr.cell? ⟨w.heap.size,1,none⟩=some u∧wr.cell? ⟨w.heap.size+1,0,none⟩=some (.int .i64 z2)∧wr.cell? ⟨w.heap.size+1,1,none⟩=some v∧Below w.heap.size w wr:=by
 obtain ⟨h1,h2,h3⟩:=box_in h
 rw [box_size] at h1 h2
 have h4:=box_in (w:=w) (z:=z1) (v:=u) (wr:=wr) (by rw [box_size] at h3 ⊢;exact h3)
 exact ⟨h4.1,h4.2.1,h1,h2,h4.2.2⟩
theorem ev_same (z1 z2:Int) (xs ys:List Fld):decide ((z1,xs)=(z2,ys))=((z1 == z2)&&decide (xs=ys)):=by
 rw [Bool.eq_iff_iff]
 simp
theorem rsame_any (z1 z2:Int) (u v:Value) (xs ys:List Fld) (w:World) (hu:RAny fldC w u xs) (hv:RAny fldC w v ys):Calls Tryz.prog 99 #[.agg #[.int .i64 z1,u],.agg #[.int .i64 z2,v]] w (BoolLeft (decide ((z1,xs)=(z2,ys))) w):=by
 have HB:=Lib.hid (two_boxes w z1 z2 u v)
 rw [ev_same]
 obtain ⟨p1,cap1,rfl,hl1,hm1,_⟩:=hu.shape
 obtain ⟨p2,cap2,rfl,hl2,hm2,_⟩:=hv.shape
 unfold maxLen at hm1 hm2
 by_cases h:z1=z2
 ·have t1:(z1 != z2)=false:=by simp [h]
  have e1:(z1 == z2)=true:=by simp [h]
  rw [e1,Bool.true_and]
  by_cases hn:xs.length=ys.length
  ·have t0:(((xs.length:Int)) != ((ys.length:Int)))=false:=by simp [hn]
   obtain ⟨n,hnn⟩:∃ n,xs.length=n:=⟨_,rfl⟩
   have hnb:ys.length=n:=by omega
   obtain ⟨RES,hRES⟩:∃ RES,decide (xs=ys)=RES:=⟨_,rfl⟩
   have h0:decide (xs.drop 0=ys.drop 0)=RES:=hRES
   rw [hRES]
   have H0:=Lib.hid h0
   have HU:=Lib.hid hu
   have HV:=Lib.hid hv
   have HNA:=Lib.hid hnn
   have HNB:=Lib.hid hnb
   rw [hnn,hnb] at t0
   rw [hnn] at hl1 HB ⊢
   rw [hnb] at hl2 HB ⊢
   have HBB:=Lib.hid (Below.refl (evBox (evBox w z1 (.slice p1 n cap1)) z2 (.slice p2 n cap2)).heap.size (evBox (evBox w z1 (.slice p1 n cap1)) z2 (.slice p2 n cap2)))
   clear h0 hu hv hRES hn hnn hnb h e1
   go_enter Tryz.func99,Tryz.ntmps99
   go_wp2_with fail
   go_loopw [5] (fun iv wr=>∃ i:Nat,i≤n∧iv=.int .i64 i∧Hid (decide (xs.drop i=ys.drop i)=RES)∧Hid (Below (evBox (evBox w z1 (.slice p1 n cap1)) z2 (.slice p2 n cap2)).heap.size (evBox (evBox w z1 (.slice p1 n cap1)) z2 (.slice p2 n cap2)) wr)) (fun iv _=>n - (intOf iv).toNat)
   case atStart=>exact ⟨0,by omega,rfl,H0,HBB⟩
   case round =>
    obtain ⟨i,hi,rfl,HI,HB1⟩:=hrel
    clear H0 HBB
    obtain ⟨_,k1,_,k2,hbw⟩:=boxes_in HB1.out
    by_cases hlt:i<n
    ·have q1:decide ((i:Int)<(n:Int))=true:=by rw [decide_eq_true_eq];omega
     have q2:decide (i<n)=true:=by rw [decide_eq_true_eq];omega
     have q3:(i:Int)<n:=by omega
     have ha:i<xs.length:=by rw [HNA.out];exact hlt
     have hb:i<ys.length:=by rw [HNB.out];exact hlt
     have hu1:=HU.out.below hbw
     have hv1:=HV.out.below hbw
     rw [HNA.out] at hu1
     rw [HNB.out] at hv1
     obtain ⟨b1,o1,rfl,hb1,_,c1,c2⟩:=fld_at hu1 ha
     obtain ⟨b2,o2,rfl,hb2,_,c3,c4⟩:=fld_at hv1 hb
     have hnx:=HI.out
     rw [drop_same ha hb] at hnx
     generalize xs[i]=X at *
     generalize ys[i]=Y at *
     have heq:=eq_fld X.1 X.2 Y.1 Y.2
     have hd:decide (X=Y)=(decide (X.1=Y.1)&&decide (X.2=Y.2)):=by
      rw [Bool.eq_iff_iff,decide_eq_true_eq,Bool.and_eq_true,decide_eq_true_eq,decide_eq_true_eq]
      exact Prod.ext_iff
     rw [hd] at hnx
     obtain ⟨X1,X2⟩:=X
     obtain ⟨Y1,Y2⟩:=Y
     dsimp only at *
     generalize decide (X1=Y1)=d1 at *
     generalize decide (X2=Y2)=d2 at *
     have HN:=Lib.hid hnx
     have HLT:=Lib.hid hlt
     have HBW:=Lib.hid hbw
     clear hnx hd hlt hu1 hv1 ha hb HI hbw
     cases d1<;>cases d2
     case true.true =>
      have hn:=HN.out
      rw [Bool.true_and,Bool.true_and] at hn
      have HN2:=Lib.hid hn
      clear HN hn
      go_wp2_with fail
      go_quiet (fail)
      go_wp2_with fail
      have hlt:=HLT.out
      go_roundw
      case rel=>exact ⟨i+1,by omega,by go_num,HN2,Lib.hid (MM.below_drewN HB1.out _)⟩
      case measure=>simp [intOf];omega
     all_goals
      have hn:=HN.out
      simp only [Bool.false_and,Bool.and_false] at hn
      subst hn
      clear HN
      go_wp2_with fail
      go_quiet (fail)
      go_wp2_with fail
      go_ret
      exact ⟨rfl,MM.below_drewN HBW.out _⟩
    ·obtain rfl:i=n:=by omega
     have q1:decide ((i:Int)<(i:Int))=false:=by simp
     have q2:decide (i<i)=false:=by simp
     have hf:RES=true:=by
      rw [← HI.out,List.drop_of_length_le (by rw [HNA.out];exact Nat.le_refl _),List.drop_of_length_le (by rw [HNB.out];exact Nat.le_refl _)]
      simp
     subst hf
     have HBW:=Lib.hid hbw
     clear HI hbw
     go_wp2_with fail
     go_ret
     exact ⟨rfl,HBW.out⟩
  ·have t0:(((xs.length:Int)) != ((ys.length:Int)))=true:=by simp;omega
   have e:decide (xs=ys)=false:=decide_eq_false fun h=>hn (by rw [h])
   rw [e]
   clear hu hv e hn h e1
   go_enter Tryz.func99,Tryz.ntmps99
   go_wp2_with fail
   go_ret
   exact ⟨rfl,HB.out⟩
 ·have t1:(z1 != z2)=true:=by simp [h]
  have e1:(z1 == z2)=false:=by simp [h]
  rw [e1,Bool.false_and]
  clear h hu hv e1
  go_enter Tryz.func99,Tryz.ntmps99
  go_wp2_with fail
  go_ret
  exact ⟨rfl,HB.out⟩
end Go.Proofs.YtdfibahafilklaaGreatDoor.EV
