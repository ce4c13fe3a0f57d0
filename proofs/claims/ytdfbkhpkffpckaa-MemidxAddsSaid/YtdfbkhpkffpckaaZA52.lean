import Derived.Test.YtdfbkhpkffpckaaZA27
import Derived.Test.YtdfbkhpkffpckaaZA16
set_option maxRecDepth 100000
set_option maxHeartbeats 8000000
set_option linter.unusedVariables false
set_option linter.unusedSimpArgs false
namespace Go.Proofs.Ytdfbkhpkffpckaa.MX
open Go Go.RowKit MM EM
open EV (docC fldC doc_at IntLeft sizeW sizeW_small)
theorem cast_le {n m:Nat} {s:Int} (h:(n:Int)=s) (hn:n≤m):0≤s∧s≤(m:Int):=by omega
theorem wrap_two {s Z:Int} {m k:Nat} (hs:0≤s∧s≤(m:Int)) (hz:0≤Z∧Z≤(k:Int)) (h:m+k≤9000000000000000000):IntKind.i64.wrap (s+Z)=s+Z:=by rw [IntWalk.i64_left];exact IntWalk.wrap64_in _ ⟨by omega,by omega⟩
theorem rsz_any (l:List SM.Doc) (lv:Value) (w:World) (hl:RAny docC w lv l) (hB:BigM l):Calls Try.prog 65 #[.agg #[lv]] w (IntLeft (sizeM l:Int) w):=by
 obtain ⟨p,cap,rfl,hlc,hcm,_⟩:=hl.shape
 unfold maxLen at hcm
 obtain ⟨w1,hw1⟩:∃ w1,w.alloc (.cells #[.slice p l.length cap] 49)=w1:=⟨_,rfl⟩
 have hb1:Below w.heap.size w w1:=by rw [← hw1];exact (Below.refl _ _).alloc (Nat.le_refl _) _
 have h1:w1.heap[w.heap.size]? = some (.cells #[.slice p l.length cap] 49 (0,0)):=by rw [← hw1];exact heap_alloc_new _ _
 have HL:=Lib.hid hl
 have HB:=Lib.hid hB
 have HX:=Lib.hid h1
 have hlt1:w.heap.size<w1.heap.size:=(Array.getElem?_eq_some_iff.1 h1).1
 have HW1:=Lib.hid hw1
 have HB1:=Lib.hid (show Below w1.heap.size w1 w1 from Below.refl _ _)
 have HBA:=Lib.hid hb1
 have hln:=hB.1
 have H0:Hid (sizeM (l.take 0)=0):=Lib.hid (by simp [sizeM])
 clear hl hb1 h1 hw1 hB
 go_enter Try.func65,Try.ntmps65
 go_wp2_with (rw [HW1.out])
 go_loopw [3,4] (fun sv iv wr=>∃ (i:Nat) (s:Int),i≤l.length∧iv=.int .i64 i∧sv=.int .i64 s∧Hid ((sizeM (l.take i):Int)=s)∧Hid (Below w1.heap.size w1 wr)) (fun _ iv _=>l.length - (intOf iv).toNat)
 case atStart=>exact ⟨0,0,by omega,rfl,rfl,Lib.hid (by rw [H0.out];rfl),HB1⟩
 case round =>
  obtain ⟨i,s,hi,rfl,rfl,HI,HBW⟩:=hrel
  clear H0 HB1
  have hx:=(HBW.out.block w.heap.size hlt1).trans HX.out
  have y0:wr.cell? ⟨w.heap.size,0,none⟩=some (.slice p l.length cap):=row_cell hx 0
  have hbw:=HBA.out.trans (HBW.out.mono (Nat.le_of_lt hlt1))
  clear hx
  by_cases hlt:i<l.length
  ·have q1:decide ((i:Int)<(l.length:Int))=true:=by rw [decide_eq_true_eq];omega
   have q2:decide (i<l.length)=true:=by rw [decide_eq_true_eq];omega
   have q3:(i:Int)<(l.length:Int):=by omega
   obtain ⟨b,off,fv,rfl,hbl,_,k0,k1,k2,hf⟩:=doc_at (HL.out.below hbw) hlt
   have hn:=sizeM_next hlt
   have hbd:=(HB.out.2 l[i] (List.getElem_mem hlt)).1
   have htk:=sizeM_big (HB.out.take i)
   replace k1:wr.cell? ⟨b,off+i*3+1,none⟩=some (.int .i64 (l[i]).2.1):=k1
   replace hf:ROn fldC (fun _=>True) wr fv (l[i]).2.2:=hf
   obtain ⟨⟨sq,⟨t,fs⟩⟩,hd⟩:∃ d,l[i]=d:=⟨_,rfl⟩
   rw [hd] at k1 hf hn hbd
   change ROn fldC _ wr fv fs at hf
   change wr.cell? ⟨b,off+i*3+1,none⟩=some (.int .i64 t) at k1
   change sizeM (l.take (i+1))=sizeM (l.take i)+(16+sizeF fs) at hn
   change sizeF fs≤65536 at hbd
   obtain ⟨pf,cf,rfl,_⟩:=hf.shape
   have HC:=Lib.hid (EV.rsize_any t (.slice pf fs.length cf) fs wr hf.any)
   have hsz:=sizeW_small (fs:=fs) (Nat.le_trans hbd (by decide))
   rw [hsz] at HC
   have h5:65552*(l.take i).length≤65552*65536:=Nat.mul_le_mul_left _ (by rw [List.length_take];omega)
   obtain ⟨Z,hZ⟩:∃ Z:Int,((16+sizeF fs:Nat):Int)=Z:=⟨_,rfl⟩
   have hnx:(sizeM (l.take (i+1)):Int)=s+Z:=by rw [hn,← hZ,← HI.out];exact Int.natCast_add _ _
   have h6:sizeM (l.take i)≤4296015872:=Nat.le_trans htk h5
   have h8:16+sizeF fs≤65552:=Nat.add_le_add_left hbd 16
   have hwz:=wrap_two (cast_le HI.out h6) (cast_le hZ h8) (by decide)
   rw [hZ] at HC
   clear htk h5 hsz hbd hn h6 h8
   have HNX:=Lib.hid hnx
   have HLT:=Lib.hid hlt
   have k3:wr.cell? ⟨b,off+i*3+1+1,none⟩=some (.slice pf fs.length cf):=k2
   clear hf hd hZ hnx hbw k0 hlt
   go_wp2_with fail
   refine HC.out.mono ?_
   rintro e w2 ⟨rfl,hb2⟩
   have HB2:=Lib.hid (HBW.out.trans (hb2.mono HBW.out.size))
   clear hb2 HC HBW
   go_wp2_with fail
   have hlt:=HLT.out
   go_roundw
   case rel=>exact ⟨i+1,s+Z,by omega,by go_num,rfl,HNX,HB2⟩
   case measure=>simp [intOf];omega
  ·obtain rfl:i=l.length:=by omega
   have q1:decide ((l.length:Int)<(l.length:Int))=false:=by simp
   have q2:decide (l.length<l.length)=false:=by simp
   have hI:=HI.out
   rw [List.take_length] at hI
   have HI9:=Lib.hid hI
   have HBB:=Lib.hid hbw
   clear hI HI hlt hbw
   go_wp2_with fail
   go_ret
   exact ⟨by rw [HI9.out];rfl,HBB.out⟩
theorem rtimes_any (l:List SM.Doc) (lv:Value) (w:World) (hl:RAny docC w lv l) (hln:l.length≤65536):Calls Try.prog 60 #[.agg #[lv]] w fun e w'=>e=.returned (.tuple #[.int .i64 (timesM l).1,.int .i64 (timesM l).2.1,.bool (timesM l).2.2])∧Below w.heap.size w w':=by
 obtain ⟨p,cap,rfl,hlc,hcm,_⟩:=hl.shape
 unfold maxLen at hcm
 obtain ⟨w1,hw1⟩:∃ w1,w.alloc (.cells #[.slice p l.length cap] 49)=w1:=⟨_,rfl⟩
 have hb1:Below w.heap.size w w1:=by rw [← hw1];exact (Below.refl _ _).alloc (Nat.le_refl _) _
 have h1:w1.heap[w.heap.size]? = some (.cells #[.slice p l.length cap] 49 (0,0)):=by rw [← hw1];exact heap_alloc_new _ _
 have HL:=Lib.hid hl
 have HX:=Lib.hid h1
 have hlt1:w.heap.size<w1.heap.size:=(Array.getElem?_eq_some_iff.1 h1).1
 have HW1:=Lib.hid hw1
 have HBA:=Lib.hid hb1
 have y0:w1.cell? ⟨w.heap.size,0,none⟩=some (.slice p l.length cap):=row_cell h1 0
 clear hl h1 hw1
 by_cases h0:l=[]
 ·have q1:((l.length:Int) == 0)=true:=by rw [h0];rfl
  have HZ:=Lib.hid h0
  clear hb1 h0
  go_enter Try.func60,Try.ntmps60
  go_wp2_with (rw [HW1.out])
  go_ret3
  exact ⟨by rw [HZ.out];rfl,HBA.out⟩
 ·have hp:=List.length_pos_iff.2 h0
  have q1:((l.length:Int) == 0)=false:=by simp;omega
  have q3:(0:Int)<(l.length:Int):=by omega
  obtain ⟨b,off,fv,rfl,hbl,hx1,k0,k1,k2,hx2⟩:=doc_at (HL.out.below hb1) hp
  replace k1:w1.cell? ⟨b,off+1,none⟩=some (.int .i64 (l[0]).2.1):=by rw [Nat.zero_mul] at k1;exact k1
  have ht1:timesM (l.take 1)=((l[0]).2.1,(l[0]).2.1,true):=by
   have e:l.take 1=[l[0]]:=by rw [show l.take 1=l.take 0++[l[0]] from List.take_succ_eq_append_getElem hp];rfl
   rw [e];exact timesM_one _
  obtain ⟨t0,hT0⟩:∃ t0,(l[0]).2.1=t0:=⟨_,rfl⟩
  rw [hT0] at k1 ht1
  have HT1:=Lib.hid ht1
  have HT9:Hid ((timesM l).2.2=true):=Lib.hid (by cases l with
   | nil=>exact absurd rfl h0
   | cons x r=>rfl)
  have HP:=Lib.hid h0
  have HPP:=Lib.hid hp
  clear hb1 hx1 hx2 k0 k2 ht1 hT0 hp h0
  go_enter Try.func60,Try.ntmps60
  go_wp2_with (rw [HW1.out])
  go_quiet (fail)
  go_wp2_with fail
  have HB1:=Lib.hid (show Below w1.heap.size w1 (w1.drewN nq) from MM.below_drewN (Below.refl _ _) _)
  have hp:=HPP.out
  go_loopw [5,6,7] (fun lo hi iv wr=>∃ (i:Nat) (x y:Int),1≤i∧i≤l.length∧iv=.int .i64 i∧lo=.int .i64 x∧hi=.int .i64 y∧Hid (timesM (l.take i)=(x,y,true))∧Hid (Below w1.heap.size w1 wr)) (fun _ _ iv _=>l.length - (intOf iv).toNat)
  case atStart=>exact ⟨1,t0,t0,by omega,by omega,rfl,rfl,rfl,HT1,HB1⟩
  case round =>
   obtain ⟨i,x,y,hi1,hi,rfl,rfl,rfl,HI,HBW⟩:=hrel
   clear HB1 HT1 y0 k1
   have hx:=(HBW.out.block w.heap.size hlt1).trans HX.out
   have y0:wr.cell? ⟨w.heap.size,0,none⟩=some (.slice (some ⟨b,off,none⟩) l.length cap):=row_cell hx 0
   have hbw:=HBA.out.trans (HBW.out.mono (Nat.le_of_lt hlt1))
   clear hx
   by_cases hlt:i<l.length
   ·have r1:decide ((i:Int)<(l.length:Int))=true:=by rw [decide_eq_true_eq];omega
    have r2:decide (i<l.length)=true:=by rw [decide_eq_true_eq];omega
    have r3:(i:Int)<(l.length:Int):=by omega
    obtain ⟨b2,off2,fv2,hpp,hbl2,hx1,k0,k1,k2,hx2⟩:=doc_at (HL.out.below hbw) hlt
    simp only [Option.some.injEq,Addr.mk.injEq,and_true] at hpp
    obtain ⟨rfl,rfl⟩:=hpp
    replace k1:wr.cell? ⟨b,off+i*3+1,none⟩=some (.int .i64 (l[i]).2.1):=k1
    have htk:l.take (i+1)=l.take i++[l[i]]:=List.take_succ_eq_append_getElem hlt
    have hne:l.take i≠[]:=fun e=>by
     have h7:(l.take i).length=0:=by rw [e];rfl
     rw [List.length_take] at h7
     omega
    have hnx:=timesM_append hne l[i]
    rw [← htk,HI.out] at hnx
    obtain ⟨t,hT⟩:∃ t,(l[i]).2.1=t:=⟨_,rfl⟩
    rw [hT] at k1 hnx
    have HNX:=Lib.hid hnx
    have HLT:=Lib.hid hlt
    have HHI:=Lib.hid hi1
    clear hx1 hx2 k0 k2 htk hne hnx hT hbw hlt hbl2
    go_wp2_with fail
    have hlt:=HLT.out
    go_roundw
    case rel=>exact ⟨i+1,min x t,max y t,by omega,by omega,by go_num,by first | rfl | (simp;done),by first | rfl | (simp;done),HNX,HBW⟩
    case measure=>simp [intOf];omega
   ·obtain rfl:i=l.length:=by omega
    have r1:decide ((l.length:Int)<(l.length:Int))=false:=by simp
    have r2:decide (l.length<l.length)=false:=by simp
    have hI:=HI.out
    rw [List.take_length] at hI
    have HI9:=Lib.hid hI
    have HBB:=Lib.hid hbw
    clear hI HI hlt hbw
    go_wp2_with fail
    go_ret3
    exact ⟨by rw [HI9.out];rfl,HBB.out⟩
theorem rseqs_any (l:List SM.Doc) (lv:Value) (w:World) (hl:RAny docC w lv l) (hln:l.length≤65536):Calls Try.prog 62 #[.agg #[lv]] w fun e w'=>e=.returned (.tuple #[.int .i64 (seqsM l).1,.int .i64 (seqsM l).2])∧Below w.heap.size w w':=by
 obtain ⟨p,cap,rfl,hlc,hcm,_⟩:=hl.shape
 unfold maxLen at hcm
 obtain ⟨w1,hw1⟩:∃ w1,w.alloc (.cells #[.slice p l.length cap] 49)=w1:=⟨_,rfl⟩
 have hb1:Below w.heap.size w w1:=by rw [← hw1];exact (Below.refl _ _).alloc (Nat.le_refl _) _
 have h1:w1.heap[w.heap.size]? = some (.cells #[.slice p l.length cap] 49 (0,0)):=by rw [← hw1];exact heap_alloc_new _ _
 have HW1:=Lib.hid hw1
 have HBA:=Lib.hid hb1
 have y0:w1.cell? ⟨w.heap.size,0,none⟩=some (.slice p l.length cap):=row_cell h1 0
 by_cases h0:l=[]
 ·have q1:((l.length:Int) == 0)=true:=by rw [h0];rfl
  have HZ:=Lib.hid h0
  clear hb1 h1 hw1 hl h0
  go_enter Try.func62,Try.ntmps62
  go_wp2_with (rw [HW1.out])
  go_ret2
  exact ⟨by rw [HZ.out];rfl,HBA.out⟩
 ·have hp:=List.length_pos_iff.2 h0
  have q1:((l.length:Int) == 0)=false:=by simp;omega
  have q3:(0:Int)<(l.length:Int):=by omega
  obtain ⟨M,hM⟩:∃ M,l.length=M+1:=⟨l.length - 1,by omega⟩
  have hwm:IntKind.i64.wrap ((l.length:Int) - 1)=(M:Int):=by rw [IntWalk.i64_left,IntWalk.wrap64_in _ ⟨by omega,by omega⟩];omega
  have q4:(M:Int)<(l.length:Int):=by omega
  have hs:seqsM l=((l[0]).1,(l[M]'(by omega)).1):=by
   unfold seqsM
   rw [if_neg h0]
   have e:l.length - 1=M:=by omega
   rw [e,List.getD_eq_getElem?_getD,List.getElem?_eq_getElem hp,List.getD_eq_getElem?_getD,List.getElem?_eq_getElem (by omega),Option.getD_some,Option.getD_some]
  obtain ⟨b,off,fv,rfl,hbl,hx1,k0,k1,k2,hx2⟩:=doc_at (hl.below hb1) hp
  obtain ⟨b2,off2,fv2,hpp,hbl2,hx3,m0,m1,m2,hx4⟩:=doc_at (hl.below hb1) (k:=M) (by omega)
  simp only [Option.some.injEq,Addr.mk.injEq,and_true] at hpp
  obtain ⟨rfl,rfl⟩:=hpp
  replace k0:w1.cell? ⟨b,off,none⟩=some (.int .i64 (l[0]).1):=by rw [Nat.zero_mul] at k0;exact k0
  replace m0:w1.cell? ⟨b,off+M*3,none⟩=some (.int .i64 (l[M]'(by omega)).1):=m0
  obtain ⟨u,hu⟩:∃ u,(l[0]).1=u:=⟨_,rfl⟩
  obtain ⟨v,hv⟩:∃ v,(l[M]'(by omega)).1=v:=⟨_,rfl⟩
  rw [hu] at k0 hs
  rw [hv] at m0 hs
  have HS:=Lib.hid hs
  clear hb1 h1 hw1 hl hx1 hx2 hx3 hx4 k1 k2 m1 m2 hu hv hs hp h0 hM hbl2
  go_enter Try.func62,Try.ntmps62
  go_wp2_with (rw [HW1.out])
  go_quiet (fail)
  go_wp2_with fail
  go_ret2
  exact ⟨by rw [HS.out];rfl,MM.below_drewN HBA.out _⟩
end Go.Proofs.Ytdfbkhpkffpckaa.MX
