import Derived.Test.YtdijhifdjbnkfaaGreatZD9
import Derived.Test.YtdijhifdjbnkfaaGreatZD14
set_option maxRecDepth 100000
set_option maxHeartbeats 8000000
set_option linter.unusedVariables false
set_option linter.unusedSimpArgs false
namespace Go.Proofs.YtdijhifdjbnkfaaGreat.EV
open Go Go.RowKit MM EM
open TK (Zov ZmJ ZtA ZbC ZwE)
theorem Zoy (l:List UInt8) (w:World):Calls Tryz.prog 123 #[.string ⟨l.toArray⟩] w (ZbC (Zov l) w):=by
 have h:=Lib.hid (ZmJ ⟨l.toArray⟩ w)
 rw [ZwD] at h
 go_enter Tryz.func123,Tryz.ntmps123
 go_wp2_with fail
 refine h.out.mono ?_
 rintro e w2 ⟨rfl,hb⟩
 have HB:=Lib.hid hb
 clear h hb
 go_wp2_with fail
 go_ret
 exact ⟨rfl,HB.out⟩
theorem ZtU (l:List UInt8) (w:World):Calls Tryz.prog 118 #[.string ⟨l.toArray⟩] w (ZbC (Zov l) w):=by
 by_cases h:l.length≤1000000000000
 ·have:=ZtA ⟨l.toArray⟩ w (by rw [ZwF];exact h)
  rw [ZwD] at this
  exact this
 ·have e:Zov l=false:=by unfold TK.Zov;rw [decide_eq_false (show ¬ (1≤l.length∧l.length≤32) by omega)];simp
  rw [e]
  have t1:decide ((l.length:Int)<1)=false:=by rw [decide_eq_false_iff_not];omega
  have t2:decide (l.length<1)=false:=by rw [decide_eq_false_iff_not];omega
  have t3:decide ((l.length:Int)>32)=true:=by rw [decide_eq_true_eq];omega
  have t4:decide (32<l.length)=true:=by rw [decide_eq_true_eq];omega
  have hs:=ZwF l
  clear e h
  go_enter Tryz.func118,Tryz.ntmps118
  go_wp2_with fail
  go_ret
  exact ⟨rfl,Below.refl _ _⟩
def ZaW (z:Int) (w:World) (e:Ending) (w':World):Prop:=e=.returned (.int .i64 z)∧Below w.heap.size w w'
theorem ZeI (z:Int) (v:Value) (fs:List Fld) (w:World) (hr:RAny fldC w v fs):Calls Tryz.prog 73 #[.agg #[.int .i64 z,v]] w (ZaW (ZeD (z,fs)) w):=by
 obtain ⟨p,cap,rfl,hlc,hcm,_⟩:=hr.shape
 unfold maxLen at hcm
 by_cases h16:16<fs.length
 ·have t1:decide ((fs.length:Int)>16)=true:=by rw [decide_eq_true_eq];omega
  have e:ZeD (z,fs)=3:=by unfold ZeD;rw [if_pos h16]
  rw [e]
  clear e hr h16
  have hb:Below w.heap.size w (w.alloc (.cells #[.int .i64 z,.slice p fs.length cap] 57)):=(Below.refl _ _).alloc (Nat.le_refl _) _
  have HB:=Lib.hid hb
  clear hb
  go_enter Tryz.func73,Tryz.ntmps73
  go_wp2_with fail
  go_ret
  exact ⟨rfl,HB.out⟩
 ·have t1:decide ((fs.length:Int)>16)=false:=by rw [decide_eq_false_iff_not];omega
  obtain ⟨RES,hRES⟩:∃ RES,ZeD (z,fs)=RES:=⟨_,rfl⟩
  have h0:ZeF (fs.drop 0)=RES:=by rw [← hRES];unfold ZeD;rw [if_neg h16];rfl
  rw [hRES]
  have hb:Below w.heap.size w (w.alloc (.cells #[.int .i64 z,.slice p fs.length cap] 57)):=(Below.refl _ _).alloc (Nat.le_refl _) _
  have HB:=Lib.hid hb
  have H0:=Lib.hid h0
  have HR:=Lib.hid hr
  clear hb h0 hr hRES h16
  go_enter Tryz.func73,Tryz.ntmps73
  go_wp2_with fail
  go_loopw [12] (fun iv wr=>∃ i:Nat,i≤fs.length∧iv=.int .i64 i∧Hid (ZeF (fs.drop i)=RES)∧Hid (Below w.heap.size w wr)) (fun iv _=>fs.length - (intOf iv).toNat)
  case atStart=>exact ⟨0,by omega,rfl,H0,HB⟩
  case round =>
   obtain ⟨i,hi,rfl,HI,HB1⟩:=hrel
   clear H0 HB
   by_cases hlt:i<fs.length
   ·have q1:decide ((i:Int)<(fs.length:Int))=true:=by rw [decide_eq_true_eq];omega
    have q2:decide (i<fs.length)=true:=by rw [decide_eq_true_eq];omega
    obtain ⟨b,off,rfl,hbl,_,c1,c2⟩:=Zi7 (HR.out.below HB1.out) hlt
    have hnext:=HI.out
    rw [ZeG hlt] at hnext
    generalize fs[i].1=n at *
    generalize fs[i].2=x at *
    have HN:=Lib.hid hnext
    have HLT:=Lib.hid hlt
    have hk:=fun W=>Zoy n W
    generalize Zov n=nb at *
    have HK:=Lib.hid hk
    have hwr:=HB1.out.size
    clear hnext HI hk hlt
    go_wp2_with fail
    refine (HK.out _).mono ?_
    rintro e w2 ⟨rfl,hb2⟩
    have hb3:Below wr.heap.size wr w2:=((Below.refl _ wr).alloc (Nat.le_refl _) _).trans (hb2.mono (by simp))
    have cx:w2.cell? ⟨wr.heap.size,1,none⟩=some (.string ⟨x.toArray⟩):=(hb2.cell (p:=⟨wr.heap.size,1,none⟩) (by simp)).trans (ZoE wr _ _ _).2
    have HB2:=Lib.hid (HB1.out.trans (hb3.mono hwr))
    clear hb2 hb3 HK c1 c2 hwr
    cases nb with
    | false =>
      have hn:=HN.out
      rw [if_pos rfl] at hn
      subst hn
      clear HN
      go_wp2_with fail
      go_ret
      exact ⟨rfl,HB2.out⟩
    | true =>
      by_cases h4:4096<x.length
      ·have q3:decide ((x.length:Int)>4096)=true:=by rw [decide_eq_true_eq];omega
       have hn:=HN.out
       rw [if_neg (by simp),if_pos h4] at hn
       subst hn
       clear HN h4
       go_wp2_with fail
       go_ret
       exact ⟨rfl,HB2.out⟩
      ·have q3:decide ((x.length:Int)>4096)=false:=by rw [decide_eq_false_iff_not];omega
       have hn:=HN.out
       rw [if_neg (by simp),if_neg h4] at hn
       have HN2:=Lib.hid hn
       clear HN h4 hn
       go_wp2_with fail
       have hlt:=HLT.out
       go_roundw
       case rel=>exact ⟨i+1,by omega,by go_num,HN2,HB2⟩
       case measure=>simp [intOf];omega
   ·obtain rfl:i=fs.length:=by omega
    have q1:decide ((fs.length:Int)<(fs.length:Int))=false:=by simp
    have q2:decide (fs.length<fs.length)=false:=by simp
    have hn:=HI.out
    rw [List.drop_length] at hn
    have hn:0=RES:=hn
    subst hn
    clear HI
    go_wp2_with fail
    go_ret
    exact ⟨rfl,HB1.out⟩
def ZhU (w:World) (z:Int) (v:Value):World:=w.alloc (.cells #[.int .i64 z,v] 57)
theorem ZdG (w:World) (z:Int) (v:Value):Below w.heap.size w (ZhU w z v):=(Below.refl _ _).alloc (Nat.le_refl _) _
theorem ZdK (w:World) (z:Int) (v:Value):(ZhU w z v).heap.size=w.heap.size+1:=by unfold ZhU;simp
theorem ZdF (w:World) (z:Int) (v:Value):(ZhU w z v).cell? ⟨w.heap.size,0,none⟩=some (.int .i64 z)∧(ZhU w z v).cell? ⟨w.heap.size,1,none⟩=some v:=ZoE w _ _ _
theorem ZdH {w wr:World} {z:Int} {v:Value} (h:Below (ZhU w z v).heap.size (ZhU w z v) wr):wr.cell? ⟨w.heap.size,0,none⟩=some (.int .i64 z)∧wr.cell? ⟨w.heap.size,1,none⟩=some v∧Below w.heap.size w wr :=
 ⟨(h.cell (p:=⟨w.heap.size,0,none⟩) (by rw [ZdK];simp)).trans (ZdF w z v).1,(h.cell (p:=⟨w.heap.size,1,none⟩) (by rw [ZdK];simp)).trans (ZdF w z v).2,(ZdG w z v).trans (h.mono (by rw [ZdK];omega))⟩
theorem ZsC (z:Int) (v:Value) (fs:List Fld) (w:World) (hr:RAny fldC w v fs):Calls Tryz.prog 70 #[.agg #[.int .i64 z,v]] w (ZaW (ZeD (z,fs)) w):=by
 obtain ⟨p,cap,rfl,hlc,hcm,_⟩:=hr.shape
 unfold maxLen at hcm
 by_cases h16:16<fs.length
 ·have t1:decide ((fs.length:Int)>16)=true:=by rw [decide_eq_true_eq];omega
  have e:ZeD (z,fs)=3:=by unfold ZeD;rw [if_pos h16]
  rw [e]
  clear e hr h16
  have HB:=Lib.hid (ZdG w z (.slice p fs.length cap))
  go_enter Tryz.func70,Tryz.ntmps70
  go_wp2_with fail
  go_ret
  exact ⟨rfl,HB.out⟩
 ·have t1:decide ((fs.length:Int)>16)=false:=by rw [decide_eq_false_iff_not];omega
  obtain ⟨RES,hRES⟩:∃ RES,ZeD (z,fs)=RES:=⟨_,rfl⟩
  have h0:ZeF (fs.drop 0)=RES:=by rw [← hRES];unfold ZeD;rw [if_neg h16];rfl
  rw [hRES]
  have HB:=Lib.hid (Below.refl (ZhU w z (.slice p fs.length cap)).heap.size (ZhU w z (.slice p fs.length cap)))
  have H0:=Lib.hid h0
  have HR:=Lib.hid hr
  clear h0 hr hRES h16
  go_enter Tryz.func70,Tryz.ntmps70
  go_wp2_with fail
  go_loopw [3] (fun iv wr=>∃ i:Nat,i≤fs.length∧iv=.int .i64 i∧Hid (ZeF (fs.drop i)=RES)∧Hid (Below (ZhU w z (.slice p fs.length cap)).heap.size (ZhU w z (.slice p fs.length cap)) wr)) (fun iv _=>fs.length - (intOf iv).toNat)
  case atStart=>exact ⟨0,by omega,rfl,H0,HB⟩
  case round =>
   obtain ⟨i,hi,rfl,HI,HB1⟩:=hrel
   clear H0 HB
   obtain ⟨_,cb,hbw⟩:=ZdH HB1.out
   by_cases hlt:i<fs.length
   ·have q1:decide ((i:Int)<(fs.length:Int))=true:=by rw [decide_eq_true_eq];omega
    have q2:decide (i<fs.length)=true:=by rw [decide_eq_true_eq];omega
    obtain ⟨b,off,rfl,hbl,_,c1,c2⟩:=Zi7 (HR.out.below hbw) hlt
    have hnext:=HI.out
    rw [ZeG hlt] at hnext
    generalize fs[i].1=n at *
    generalize fs[i].2=x at *
    have HN:=Lib.hid hnext
    have HLT:=Lib.hid hlt
    have hk:=ZtU n wr
    generalize Zov n=nb at *
    have HK:=Lib.hid hk
    have hwr:=HB1.out.size
    have hbw0:=hbw.size
    rw [ZdK] at hwr
    clear hnext HI hk hlt hbw
    go_wp2_with fail
    refine HK.out.mono ?_
    rintro e w2 ⟨rfl,hb2⟩
    have cx:w2.cell? ⟨b,off+i*2+1,none⟩=some (.string ⟨x.toArray⟩):=(hb2.cell (p:=⟨b,off+i*2+1,none⟩) hbl).trans c2
    have cb2:w2.cell? ⟨w.heap.size,1,none⟩=some (.slice (some ⟨b,off,none⟩) fs.length cap):=(hb2.cell (p:=⟨w.heap.size,1,none⟩) (show w.heap.size<wr.heap.size by omega)).trans cb
    have HB2:=Lib.hid (HB1.out.trans (hb2.mono HB1.out.size))
    clear hb2 HK c1 c2 cb hwr hbw0
    cases nb with
    | false =>
      have hn:=HN.out
      rw [if_pos rfl] at hn
      subst hn
      clear HN
      go_wp2_with fail
      go_ret
      exact ⟨rfl,(ZdH HB2.out).2.2⟩
    | true =>
      by_cases h4:4096<x.length
      ·have q3:decide ((x.length:Int)>4096)=true:=by rw [decide_eq_true_eq];omega
       have hn:=HN.out
       rw [if_neg (by simp),if_pos h4] at hn
       subst hn
       clear HN h4
       go_wp2_with fail
       go_ret
       exact ⟨rfl,(ZdH HB2.out).2.2⟩
      ·have q3:decide ((x.length:Int)>4096)=false:=by rw [decide_eq_false_iff_not];omega
       have hn:=HN.out
       rw [if_neg (by simp),if_neg h4] at hn
       have HN2:=Lib.hid hn
       clear HN h4 hn
       go_wp2_with fail
       have hlt:=HLT.out
       go_roundw
       case rel=>exact ⟨i+1,by omega,by go_num,HN2,HB2⟩
       case measure=>simp [intOf];omega
   ·obtain rfl:i=fs.length:=by omega
    have q1:decide ((fs.length:Int)<(fs.length:Int))=false:=by simp
    have q2:decide (fs.length<fs.length)=false:=by simp
    have hn:=HI.out
    rw [List.drop_length] at hn
    have hn:0=RES:=hn
    subst hn
    have HBW:=Lib.hid hbw
    clear HI hbw
    go_wp2_with fail
    go_ret
    exact ⟨rfl,HBW.out⟩
theorem ZzF (a b:Int):wrap64 (wrap64 a+b)=wrap64 (a+b):=by unfold wrap64;omega
theorem ZzG (a b:Int):wrap64 (a+wrap64 b)=wrap64 (a+b):=by unfold wrap64;omega
def Zv2 (fs:List Fld):Int:=wrap64 (16+(ZvV fs:Int))
theorem Zv3 {fs:List Fld} {k:Nat} (hk:k<fs.length):wrap64 (Zv2 (fs.take k)+((fs[k].1.length:Int)+(fs[k].2.length:Int)))=Zv2 (fs.take (k+1)):=by
 unfold Zv2
 rw [ZzF,ZvX hk]
 congr 1
 omega
theorem Zv4 {fs:List Fld} (h:ZvV fs≤1000000000000):Zv2 fs=(16+ZvV fs:Nat):=by unfold Zv2 wrap64;omega
end Go.Proofs.YtdijhifdjbnkfaaGreat.EV
namespace Go.Proofs.YtdijhifdjbnkfaaGreat.EV
open Go Go.RowKit MM EM
end Go.Proofs.YtdijhifdjbnkfaaGreat.EV
namespace Go.Proofs.YtdijhifdjbnkfaaGreat.ST
open Go Go.RowKit MM EM SM
open EV (docC evC fldC Zgn ZaW ZhU ZdG ZdK ZdH)
end Go.Proofs.YtdijhifdjbnkfaaGreat.ST
namespace Go.Proofs.YtdijhifdjbnkfaaGreat.ST
open Go Go.RowKit MM EM SM
open EV (docC evC fldC Zgn ZaW)
end Go.Proofs.YtdijhifdjbnkfaaGreat.ST
namespace Go.Proofs.YtdijhifdjbnkfaaGreat.EV
open Go Go.RowKit MM EM
theorem Zv5 (z:Int) (v:Value) (fs:List Fld) (w:World) (hr:RAny fldC w v fs):Calls Tryz.prog 124 #[.agg #[.int .i64 z,v]] w (ZaW (Zv2 fs) w):=by
 obtain ⟨p,cap,rfl,hlc,hcm,_⟩:=hr.shape
 unfold maxLen at hcm
 have HB:=Lib.hid (ZdG w z (.slice p fs.length cap))
 have HR:=Lib.hid hr
 have H0:Hid (Zv2 (fs.take 0)=16):=Lib.hid (by simp [Zv2,ZvV,wrap64])
 clear hr
 go_enter Tryz.func124,Tryz.ntmps124
 go_wp2_with fail
 go_loopw [3,9] (fun sv iv wr=>∃ (i:Nat) (s:Int),i≤fs.length∧iv=.int .i64 i∧sv=.int .i64 s∧Hid (Zv2 (fs.take i)=s)∧Hid (Below w.heap.size w wr)) (fun _ iv _=>fs.length - (intOf iv).toNat)
 case atStart=>exact ⟨0,16,by omega,rfl,rfl,H0,HB⟩
 case round =>
  obtain ⟨i,s,hi,rfl,rfl,HI,HB1⟩:=hrel
  clear H0 HB
  by_cases hlt:i<fs.length
  ·have q1:decide ((i:Int)<(fs.length:Int))=true:=by rw [decide_eq_true_eq];omega
   have q2:decide (i<fs.length)=true:=by rw [decide_eq_true_eq];omega
   obtain ⟨b,off,rfl,hbl,_,c1,c2⟩:=Zi7 (HR.out.below HB1.out) hlt
   have hnext:=Zv3 hlt
   rw [HI.out,← ZzG] at hnext
   generalize fs[i].1=n at *
   generalize fs[i].2=x at *
   have HN:=Lib.hid hnext
   have HLT:=Lib.hid hlt
   have hb3:Below wr.heap.size wr (wr.alloc (.cells #[.string ⟨n.toArray⟩,.string ⟨x.toArray⟩] 123)):=(Below.refl _ wr).alloc (Nat.le_refl _) _
   have HB2:=Lib.hid (HB1.out.trans (hb3.mono HB1.out.size))
   clear hnext HI hlt hb3
   go_wp2_with fail
   have hlt:=HLT.out
   go_roundw
   case rel=>exact ⟨i+1,_,by omega,by go_num,rfl,Lib.hid HN.out.symm,HB2⟩
   case measure=>simp [intOf];omega
  ·obtain rfl:i=fs.length:=by omega
   have q1:decide ((fs.length:Int)<(fs.length:Int))=false:=by simp
   have q2:decide (fs.length<fs.length)=false:=by simp
   have hn:=HI.out
   rw [List.take_length] at hn
   subst hn
   clear HI
   go_wp2_with fail
   go_ret
   exact ⟨rfl,HB1.out⟩
end Go.Proofs.YtdijhifdjbnkfaaGreat.EV
namespace Go.Proofs.YtdijhifdjbnkfaaGreat.SG
open Go Go.RowKit MM
open EV (docC evC fldC Zgn ZaW Zv2)
open EM (ZvV)
open SM (Doc)
open GM (sumW ZwM ZwN)
theorem Zv4 {fs:List EM.Fld} (h:ZvV fs≤1000000):Zv2 fs=((16+ZvV fs:Nat):Int):=by
 unfold Zv2
 rw [IntWalk.wrap64_in _ ⟨by omega,by omega⟩]
 omega
theorem Zv8 (v:Value) (l:List Doc) (w:World) (hv:RAny docC w v l) (hs:sumW l≤100000):Calls Tryz.prog 74 #[v] w (ZaW (sumW l:Int) w):=by
 obtain ⟨p,cap,rfl,hlc,hcm,_⟩:=hv.shape
 unfold maxLen at hcm
 obtain ⟨M,hM⟩:∃ M,sumW l=M:=⟨_,rfl⟩
 have HM:Hid (sumW (l.take l.length)=M):=Lib.hid (by rw [List.take_length];exact hM)
 have HTK:=Lib.hid (fun k=>hM▸ZwN l k)
 have HNX:=Lib.hid (fun (k:Nat) (hk:k<l.length)=>ZwM hk)
 have HV:=Lib.hid hv
 have H0:Hid (sumW (l.take 0)=0):=Lib.hid (by simp [sumW])
 rw [hM] at hs ⊢
 clear hv hM
 go_enter Tryz.func74,Tryz.ntmps74
 go_wp2_with fail
 go_loopw [3,8] (fun sv iv wr=>∃ (i s:Nat),i≤l.length∧iv=.int .i64 i∧sv=.int .i64 s∧s≤100000∧Hid (sumW (l.take i)=s)∧Hid (Below w.heap.size w wr)) (fun _ iv _=>l.length - (intOf iv).toNat)
 case atStart=>exact ⟨0,0,by omega,rfl,rfl,by omega,H0,Lib.hid (Below.refl _ _)⟩
 case round =>
  obtain ⟨i,s,hi,rfl,rfl,hs0,HI,HB⟩:=hrel
  clear H0
  by_cases hlt:i<l.length
  ·have q1:decide ((i:Int)<(l.length:Int))=true:=by rw [decide_eq_true_eq];omega
   have q2:decide (i<l.length)=true:=by rw [decide_eq_true_eq];omega
   have q3:(i:Int)<(l.length:Int):=by omega
   obtain ⟨b,off,vf,rfl,hbl,_,c1,c2,c3,hf⟩:=Zgn (HV.out.below HB.out) hlt
   have hnx:=HNX.out i hlt
   have htk:=HTK.out (i+1)
   obtain ⟨⟨sq,⟨at_,fs⟩⟩,hd⟩:∃ d,l[i]=d:=⟨_,rfl⟩
   rw [hd] at c1 c2 hf hnx
   dsimp only at c1 c2 hf hnx
   rw [HI.out] at hnx
   have hle:s+ZvV fs≤100000:=by omega
   have hz:=Zv4 (fs:=fs) (by omega)
   have hz0:Zv2 ([]:List EM.Fld)=((16:Nat):Int):=by rw [Zv4 (by simp [ZvV])];simp [ZvV]
   obtain ⟨F,hF⟩:∃ F,ZvV fs=F:=⟨_,rfl⟩
   rw [hF] at hz hnx hle
   obtain ⟨pf,cf,rfl,_⟩:=hf.shape
   obtain ⟨w1,hw1⟩:∃ w1,wr.alloc (.cells #[.int .i64 sq,.int .i64 at_,.slice pf fs.length cf] 59)=w1:=⟨_,rfl⟩
   have hb1:Below wr.heap.size wr w1:=by rw [← hw1];exact (Below.refl _ _).alloc (Nat.le_refl _) _
   have HB1:=Lib.hid (HB.out.trans (hb1.mono HB.out.size))
   have hC:=EV.Zv5 at_ (.slice pf fs.length cf) fs w1 (hf.any.below hb1)
   have hC2:=fun W=>EV.Zv5 0 (.slice none 0 0) [] W (ROn.nil_ _ _)
   rw [hz] at hC
   simp only [hz0] at hC2
   have HC:=Lib.hid hC
   have HC2:=Lib.hid hC2
   have HW1:=Lib.hid hw1
   have HN:=Lib.hid hnx
   have HLT:=Lib.hid hlt
   clear hb1 hw1 hf HB hC hC2 hz hz0 hF hnx htk hd HI hlt
   go_wp2_with fail
   rw [HW1.out]
   refine HC.out.mono ?_
   rintro e w2 ⟨rfl,hb2⟩
   have HB2:=Lib.hid (HB1.out.trans (hb2.mono HB1.out.size))
   clear hb2 HC HW1 HB1 c1 c2 c3
   go_wp2_with fail
   refine (HC2.out _).mono ?_
   rintro e w3 ⟨rfl,hb3⟩
   have HB3:=Lib.hid (HB2.out.trans (hb3.mono HB2.out.size))
   clear hb3 HC2 HB2
   go_wp2_with fail
   have hlt:=HLT.out
   go_roundw
   case rel=>exact ⟨i+1,s+F,by omega,by go_num,by go_num,by omega,HN,HB3⟩
   case measure=>simp [intOf];omega
  ·obtain rfl:i=l.length:=by omega
   have q1:decide ((l.length:Int)<(l.length:Int))=false:=by simp
   have q2:decide (l.length<l.length)=false:=by simp
   have hn:=HI.out
   rw [HM.out] at hn
   subst hn
   clear HI hlt HM HTK
   go_wp2_with fail
   go_ret
   exact ⟨rfl,HB.out⟩
end Go.Proofs.YtdijhifdjbnkfaaGreat.SG
namespace Go.Proofs.YtdijhifdjbnkfaaGreat.EV
open Go Go.RowKit MM EM
theorem intE:Elem cInt Tryz.prog 69 3 8:=⟨Tryz.underlying69,by
 have h:(Tryz.prog.info? 3).map (fun i=>(i.zero,i.size,i.bytes))=some (some (.int .i64 0),1,8):=by kernel_rfl
 obtain ⟨i,h1,h2,h3,h4⟩:=info_parts h
 exact ⟨i,_,h1,h2,h3,h4,rfl⟩⟩
def ZaZ (w:World) (b:Nat):Prop:=∃ cur fr,w.heap[b]? = some (.cells cur 3 fr)
def trmC:Codec Trm:=Zek cStr (cRow cInt)
theorem Zx7 {S:Nat→Prop} {w:World} {cs:List Value} {t:Trm}:trmC.on S w cs t↔∃ v,cs=[.string ⟨t.1.toArray⟩,v]∧ROn cInt S w v t.2:=by
 constructor
 ·rintro ⟨x,y,rfl,hx,v,hy,hr⟩
  have hx:x=[.string ⟨t.1.toArray⟩]:=hx
  exact ⟨v,by rw [hx,hy];rfl,hr⟩
 ·rintro ⟨v,rfl,hr⟩
  exact ⟨[_],[v],rfl,rfl,v,rfl,hr⟩
theorem ZbW {α:Type}:∀ (l:List (EM.Tr α)) (s:List UInt8) (p:α),(addP l s p).length≤l.length+1
 | [],s,p=>by simp [addP]
 | t::r,s,p=>by
   have ih:=ZbW r s p
   rw [addP]
   split
   ·simp only [List.length_cons];omega
   ·split<;>simp
theorem Zmh (w:World) (zs:List Int) (hl:zs.length≤maxLen):RAny cInt (w.alloc (.cells (zs.map fun z=>Value.int .i64 z).toArray 3)) (.slice (some ⟨w.heap.size,0,none⟩) zs.length zs.length) zs:=by
 have:=ZtY (C:=cInt) (S:=fun _=>True) (e:=3) w (zs.map fun z=>[.int .i64 z]) zs hl ⟨by simp,fun i hi hi'=>by rw [List.getElem_map];rfl⟩
 rw [Zi3] at this
 exact this.any
theorem Zx1 {S:Nat→Prop} {w:World} {p:Option Addr} {n cap:Nat} {ts:List Trm} (h:ROn trmC S w (.slice p n cap) ts) {k:Nat} (hk:k<ts.length) :
  ∃ b off v,p=some ⟨b,off,none⟩∧b<w.heap.size∧S b∧w.cell? ⟨b,off+k*2,none⟩=some (.string ⟨ts[k].1.toArray⟩)∧w.cell? ⟨b,off+k*2+1,none⟩=some v∧ROn cInt S w v ts[k].2:=by
 obtain ⟨b,off,vs,hp,hlt,hS,hon,hc⟩:=h.at_ hk
 rw [Zx7] at hon
 obtain ⟨v,rfl,hr⟩:=hon
 exact ⟨b,off,v,hp,hlt,hS,hc 0 _ rfl,hc 1 _ rfl,hr⟩
def RNew (B:Nat) (w:World) (v:Value) (T:List Trm):Prop:=ROn trmC (fun b=>B≤b) w v T
theorem RNew.below {B:Nat} {w w':World} {v:Value} {T:List Trm} (h:RNew B w v T) (hb:Below w.heap.size w w'):RNew B w' v T:=ROn.keep h (ZmT _ hb) fun _ _ h=>h
theorem RNew.of {B:Nat} {w wd:World} {v:Value} {T:List Trm} (hB:B≤wd.heap.size) (h:ROn trmC (fun b=>B≤b∨wd.heap.size≤b) w v T):RNew B w v T:=ROn.weak h fun b _ hb=>hb.elim id fun h=>Nat.le_trans hB h
def Zbx (T:List Trm) (w:World) (e:Ending) (w':World):Prop:=∃ u,e=.returned u∧RNew w.heap.size w' u T∧Below w.heap.size w w'
end Go.Proofs.YtdijhifdjbnkfaaGreat.EV
namespace Go.Proofs.YtdijhifdjbnkfaaGreat.MM
open Go Go.RowKit
def cVal:Codec Value where
 size:=1
 on:=fun _ _ vs u=>vs=[u]∧u.oneCell'=true
 pos:=by decide
 len:=fun h=>by rw [h.1];rfl
 keep:=fun h _ _=>h
 one:=fun h u hu=>by rw [h.1] at hu;simp at hu;rw [hu];exact h.2
abbrev RawP:=List UInt8×Value
def rawP:Codec RawP:=Zek cStr cVal
theorem Zsz {S:Nat→Prop} {w:World} {vs:List Value} {p:RawP}:rawP.on S w vs p↔vs=[.string ⟨p.1.toArray⟩,p.2]∧p.2.oneCell'=true:=by
 constructor
 ·rintro ⟨x,y,h,h1,h2,h3⟩
  have h1:x=[.string ⟨p.1.toArray⟩]:=h1
  exact ⟨by rw [h,h1,h2];rfl,h3⟩
 ·rintro ⟨h,h1⟩
  exact ⟨[.string ⟨p.1.toArray⟩],[p.2],h,rfl,rfl,h1⟩
theorem ZsA {e:TypeId} {B:Nat} {w:World} {v:Value} {ps:List RawP} (h:OwnX rawP e B (fun _=>False) w v ps):OwnC rawP e B w v ps:=by
 obtain ⟨raw,h1,h2⟩:=h
 exact ⟨raw,h1,h2.keep (Kep.refl _ _) fun _ _ h=>h.elim⟩
theorem Zsy {e:TypeId} {B:Nat} {w:World} {v:Value} {ps:List RawP} (h:OwnC rawP e B w v ps):OwnX rawP e B (fun _=>False) w v ps:=by
 obtain ⟨raw,h1,h2⟩:=h
 exact ⟨raw,h1,h2.1,fun i hi hi'=>Zsz.2 (Zsz.1 (h2.2 i hi hi'))⟩
def Free (v:Value) (us:List Value) (b:Nat):Prop:=v.ownBlock≠some b∧∀ u∈us,u.ownBlock≠some b
variable {α : Type} {D : Codec α} {e1 e2 : TypeId} {B : Nat}
structure RowsAt (D:Codec α) (e1 e2:TypeId) (B:Nat) (w:World) (v:Value) (us:List Value) (rows:List (List UInt8×List α)):Prop where
 len:us.length=rows.length
 outer:OwnX rawP e1 B (fun _=>False) w v (List.zip (rows.map (·.1)) us)
 inner:∀ i (h:i<us.length) (h':i<rows.length),OwnX D e2 B (Free v us) w us[i] rows[i].2
 apart:∀ i j (h:i<us.length) (h':j<us.length) g,us[i].ownBlock=some g→us[j].ownBlock=some g→i=j
variable {w : World} {v : Value} {us : List Value} {rows : List (List UInt8 × List α)}
theorem RowsAt.kep {w':World} (h:RowsAt D e1 e2 B w v us rows) (hk:Kep (fun _=>True) w w'):RowsAt D e1 e2 B w' v us rows :=
 ⟨h.len,h.outer.keep hk (fun _ _ _=>trivial) (fun _ _=>trivial),fun i hi hi'=>(h.inner i hi hi').keep hk (fun _ _ _=>trivial) (fun _ _=>trivial),h.apart⟩
theorem RowsAt.below {w':World} (h:RowsAt D e1 e2 B w v us rows) (hb:Below w.heap.size w w'):RowsAt D e1 e2 B w' v us rows:=h.kep (ZmT _ hb)
theorem RowsAt.zlen (h:RowsAt D e1 e2 B w v us rows):(List.zip (rows.map (·.1)) us).length=rows.length:=by rw [List.length_zip,List.length_map,h.len,Nat.min_self]
theorem RowsAt.shape (h:RowsAt D e1 e2 B w v us rows):∃ p cap,v=.slice p rows.length cap∧rows.length≤cap∧cap≤maxLen∧(p=none→cap=0):=by
 have:=h.outer.any.shape
 rw [h.zlen] at this
 exact this
theorem RowsAt.one (h:RowsAt D e1 e2 B w v us rows) {i:Nat} (hi:i<us.length):us[i].oneCell'=true:=(h.inner i hi (by rw [← h.len];exact hi)).any.oneCell
theorem RowsAt.olt (h:RowsAt D e1 e2 B w v us rows) {g:Nat} (hg:v.ownBlock=some g):B≤g∧g<w.heap.size:=⟨(h.outer.cells hg).1,(h.outer.cells hg).2.1⟩
theorem RowsAt.ilt (h:RowsAt D e1 e2 B w v us rows) {i:Nat} (hi:i<us.length) {g:Nat} (hg:us[i].ownBlock=some g):B≤g∧g<w.heap.size :=
 have:=(h.inner i hi (by rw [← h.len];exact hi)).cells hg;⟨this.1,this.2.1⟩
theorem RowsAt.out (h:RowsAt D e1 e2 B w v us rows) (he:e1≠e2) {i:Nat} (hi:i<us.length) {g:Nat} (hg:us[i].ownBlock=some g):v.ownBlock≠some g:=fun hv=>by
 obtain ⟨_,_,c1,f1,h1⟩:=h.outer.cells hv
 obtain ⟨_,_,c2,f2,h2⟩:=(h.inner i hi (by rw [← h.len];exact hi)).cells hg
 rw [h1] at h2
 simp only [Option.some.injEq,Obj.cells.injEq] at h2
 exact he h2.2.1
theorem RowsAt.at_ (h:RowsAt D e1 e2 B w v us rows) {k:Nat} (hk:k<us.length) (hk':k<rows.length):∃ g cap,v=.slice (some ⟨g,0,none⟩) rows.length cap∧g<w.heap.size∧B≤g ∧
  w.cell? ⟨g,k*2,none⟩=some (.string ⟨rows[k].1.toArray⟩)∧w.cell? ⟨g,k*2+1,none⟩=some us[k]∧(∀ j,w.frozen? ⟨g,j,none⟩=false):=by
 have hz:=h.zlen
 have hkz:k<(List.zip (rows.map (·.1)) us).length:=by rw [hz];exact hk'
 have hC:=ZsA h.outer
 obtain ⟨p,cap,hv,hle,_,hp⟩:=h.shape
 have ho:=h.outer
 obtain ⟨raw,ho1,_⟩:=ho
 rcases ho1.2 with ⟨_,h0⟩ | ⟨g,cap',cur,hv',hg,hh,_⟩
 ·rw [hz] at h0;omega
 ·rw [hz] at hv'
  rw [hv'] at hC
  obtain ⟨vs,hvs,hc,hf,_⟩:=hC.elem hkz
  have hv2:=(Zsz.1 hvs).1
  simp only [List.getElem_zip,List.getElem_map] at hv2
  refine ⟨g,cap',hv',(Array.getElem?_eq_some_iff.1 hh).1,hg,?_,?_,hf⟩
  ·have:=hc 0 _ (by rw [hv2];rfl)
   exact this
  ·exact hc 1 _ (by rw [hv2];rfl)
theorem ZzV {β γ:Type}:∀ (xs:List β) (ys:List γ) (k:Nat) (u:γ) (h1:k<xs.length) (h2:xs.length=ys.length),List.zip xs (ys.set k u)=(List.zip xs ys).set k (xs[k],u)
 | x::xs,y::ys,0,u,_,_=>rfl
 | x::xs,y::ys,k+1,u,h1,h2=>by
   rw [List.set_cons_succ,List.zip_cons_cons,List.zip_cons_cons,List.set_cons_succ,ZzV xs ys k u (by simpa using h1) (by simpa using h2)]
   rfl
theorem RowsAt.hit {w':World} (he:e1≠e2) (h:RowsAt D e1 e2 B w v us rows) {k:Nat} (hk:k<us.length) (hk':k<rows.length) {u':Value} {es:List α} (hu:OwnX D e2 B (fun b=>b<w.heap.size∧Free v us b) w' u' es)
  (hkp:Kep (fun b=>us[k].ownBlock≠some b) w w') (hat:∀ g,u'.ownBlock=some g→us[k].ownBlock=some g∨w.heap.size≤g) {g n cap:Nat} (hv:v=.slice (some ⟨g,0,none⟩) n cap) :
  RowsAt D e1 e2 B (w'.setCell ⟨g,k*2+1,none⟩ u') v (us.set k u') (rows.set k (rows[k].1,es)):=by
 have hvb:v.ownBlock=some g:=by rw [hv];rfl
 have hub:u'.ownBlock≠some g:=fun e=>by
  rcases hat g e with h1 | h1
  ·exact h.out he hk h1 hvb
  ·have:=(h.olt hvb).2;omega
 have hset:Kep (fun b=>b≠g) w' (w'.setCell ⟨g,k*2+1,none⟩ u'):=ZmZ (fun h=>h rfl) u'
 have hone:=hu.any.oneCell
 have hfree:∀ b,(b<w.heap.size∧Free v us b)→Free v (us.set k u') b:=fun b ⟨hb,hf⟩=>⟨hf.1,fun u hm e=>by
  rcases List.mem_or_eq_of_mem_set hm with hm | rfl
  ·exact hf.2 u hm e
  ·rcases hat b e with h1 | h1
   ·exact hf.2 _ (List.getElem_mem hk) h1
   ·omega⟩
 have hfin:∀ {u:Value} {xs:List α},OwnX D e2 B (fun b=>b<w.heap.size∧Free v us b) w' u xs→u.ownBlock≠some g→OwnX D e2 B (Free v (us.set k u')) (w'.setCell ⟨g,k*2+1,none⟩ u') u xs:=fun h1 hne =>
  OwnX.weak (h1.keep hset (fun b _ hb e=>hb.2.1 (by rw [e];exact hvb)) (fun b hb e=>hne (by rw [← e];exact hb))) fun b _ hb=>hfree b hb
 have houter:OwnX rawP e1 B (fun _=>False) w' v (List.zip (rows.map (·.1)) us):=h.outer.keep hkp (fun _ _ h=>h.elim) fun g' hg'=>fun e=>h.out he hk e hg'
 refine ⟨by rw [List.length_set,List.length_set];exact h.len,?_,fun i hi hi' => ?_,fun i j hi hj b hib hjb => ?_⟩
 ·have hz:k<(List.zip (rows.map (·.1)) us).length:=by rw [h.zlen];exact hk'
  have hC:=ZsA houter
  rw [hv] at hC
  obtain ⟨vs,hvs,_,_,hst⟩:=hC.elem hz
  have hv2:=(Zsz.1 hvs).1
  have hnew:=hst 1 u' (rows[k].1,u') (by show 1<2;omega) (Zsz.2 ⟨by rw [hv2];simp,hone⟩)
  have e1':List.zip ((rows.set k (rows[k].1,es)).map (·.1)) (us.set k u')=(List.zip (rows.map (·.1)) us).set k (rows[k].1,u'):=by
   rw [List.map_set]
   have:(rows.map (·.1)).set k rows[k].1=rows.map (·.1):=by
    apply List.ext_getElem (by simp)
    intro i hi hi'
    rw [List.getElem_set]
    split
    ·rename_i hik;subst hik;simp
    ·rfl
   rw [this,ZzV _ _ _ _ (by simpa using hk') (by rw [List.length_map,h.len])]
   simp
  rw [e1',hv]
  exact Zsy hnew
 ·rw [List.length_set] at hi hi'
  by_cases hik:k=i
  ·subst hik
   simp only [List.getElem_set_self]
   exact hfin hu hub
  ·rw [List.getElem_set_ne hik,List.getElem_set_ne hik]
   exact hfin ((OwnX.weak (h.inner i hi hi') fun b hb hf=>⟨hb,hf⟩).keep hkp (fun b _ hf=>hf.2.2 _ (List.getElem_mem hk)) (fun b hb e=>hik (h.apart k i hk hi b e hb))) (fun e=>h.out he hi e hvb)
 ·rw [List.length_set] at hi hj
  by_cases hki:k=i
  ·by_cases hkj:k=j
   ·omega
   ·subst hki
    rw [List.getElem_set_self] at hib
    rw [List.getElem_set_ne hkj] at hjb
    rcases hat b hib with h1 | h1
    ·exact h.apart k j hk hj b h1 hjb
    ·have:=(h.ilt hj hjb).2;omega
  ·rw [List.getElem_set_ne hki] at hib
   by_cases hkj:k=j
   ·subst hkj
    rw [List.getElem_set_self] at hjb
    rcases hat b hjb with h1 | h1
    ·exact h.apart i k hi hk b hib h1
    ·have:=(h.ilt hi hib).2;omega
   ·rw [List.getElem_set_ne hkj] at hjb
    exact h.apart i j hi hj b hib hjb
theorem RowsAt.any (h:RowsAt D e1 e2 B w v us rows):RAny (Zek cStr (cRow D)) w v rows:=by
 obtain ⟨p,cap,raw,hv,h1,h2,h3,hm,hc⟩:=h.outer.any
 rw [h.zlen] at hv h1
 refine ⟨p,cap,raw,hv,h1,h2,h3,⟨by rw [hm.1,h.zlen],fun i hi hi' => ?_⟩,?_⟩
 ·have hz:i<(List.zip (rows.map (·.1)) us).length:=by rw [← hm.1];exact hi
  have hiu:i<us.length:=by rw [h.len];exact hi'
  have:=Zsz.1 (hm.2 i hi hz)
  simp only [List.getElem_zip,List.getElem_map] at this
  exact ⟨[.string ⟨rows[i].1.toArray⟩],[us[i]],this.1,rfl,us[i],rfl,(h.inner i hiu hi').any⟩
 ·rcases hc with hc | hc
  ·left
   have:=h.zlen
   rw [hc] at this
   exact List.eq_nil_of_length_eq_zero this.symm
  ·exact .inr hc
end Go.Proofs.YtdijhifdjbnkfaaGreat.MM
namespace Go.Proofs.YtdijhifdjbnkfaaGreat.SG
open Go Go.RowKit MM
open EM (Znl Znt)
def Zrr:Codec (Int×List Int):=Zek cInt (cRow cInt)
end Go.Proofs.YtdijhifdjbnkfaaGreat.SG
namespace Go.Proofs.YtdijhifdjbnkfaaGreat.GB
open Go Go.RowKit MM
def Zae (B q:Nat) (w W:World) (v:Value) (l:List UInt8):Prop:=OwnB B W v l∧Below B w W∧B≤W.heap.size∧q<W.heap.size∧∀ g,v.ownBlock=some g→g≠q
theorem Zae.grown {B q:Nat} {w W W':World} {v v':Value} {l m:List UInt8} (h:Zae B q w W v l) (ho:OwnB 0 W' v' m) (hg:ZaL W W' v v'):Zae B q w W' v' m∧W'.heap[q]? = W.heap[q]? := by
 obtain ⟨h1,h2,h3,h4,h5⟩:=h
 have hs:=hg.1.size
 have hlo:∀ k,v.ownBlock=some k→B≤k:=fun k hk=>(World.ownsRow.lt h1 k hk).1
 refine ⟨⟨OwnB.from ho fun k hk => ?_,h2.trans (hg.kep.below h3 fun k hk e=>by have:=hlo k e;omega),by omega,by omega,fun g hgv => ?_⟩,hg.1.block q h4 fun e=>h5 q e.symm rfl⟩
 ·rcases hg.2 k hk with e | e
  ·exact hlo k e
  ·omega
 ·rcases hg.2 g hgv with e | e
  ·exact h5 g e
  ·omega
theorem Zae.below {B q:Nat} {w W W':World} {v:Value} {l:List UInt8} (h:Zae B q w W v l) (hb:Below W.heap.size W W'):Zae B q w W' v l:=by
 obtain ⟨h1,h2,h3,h4,h5⟩:=h
 have hs:=hb.size
 exact ⟨h1.keep hb,h2.trans (hb.mono h3),by omega,by omega,h5⟩
end Go.Proofs.YtdijhifdjbnkfaaGreat.GB
namespace Go.Proofs.YtdijhifdjbnkfaaGreat.ST
open Go Go.RowKit MM EM SM
open EV (docC evC fldC Zgn ZaW)
def errC (b:Bool):Int:=if b then 0 else 120
theorem Zem (v:Value) (l:List Doc) (w:World) (hv:RAny docC w v l):Calls Tryz.prog 38 #[v] w (ZaW (errC (isS l)) w):=by
 obtain ⟨p,cap,rfl,hlc,hcm,_⟩:=hv.shape
 unfold maxLen at hcm
 by_cases hl:l.length≤65536
 ·obtain ⟨RES,hRES⟩:∃ RES,isS l=RES:=⟨_,rfl⟩
  have h0:isR 0 (l.drop 0)=RES:=by rw [← hRES];unfold isS;rw [decide_eq_true hl];simp
  have q0:decide ((l.length:Int)>65536)=false:=by rw [decide_eq_false_iff_not];omega
  have q00:decide (65536<l.length)=false:=decide_eq_false (by omega)
  rw [hRES]
  have H0:=Lib.hid h0
  have HV:=Lib.hid hv
  clear h0 hRES hv
  go_enter Tryz.func38,Tryz.ntmps38
  go_wp2_with fail
  go_loopw [3,11] (fun lv iv wr=>∃ (i:Nat) (z:Int),i≤l.length∧iv=.int .i64 i∧lv=.int .i64 z∧Hid (isR z (l.drop i)=RES)∧Hid (Below w.heap.size w wr)) (fun _ iv _=>l.length - (intOf iv).toNat)
  case atStart=>exact ⟨0,0,by omega,rfl,rfl,H0,Lib.hid (Below.refl _ _)⟩
  case round =>
   obtain ⟨i,z,hi,rfl,rfl,HI,HB⟩:=hrel
   clear H0
   by_cases hlt:i<l.length
   ·have q1:decide ((i:Int)<(l.length:Int))=true:=by rw [decide_eq_true_eq];omega
    have q2:decide (i<l.length)=true:=by rw [decide_eq_true_eq];omega
    have q3:(i:Int)<(l.length:Int):=by omega
    obtain ⟨b,off,vf,rfl,hbl,_,c1,c2,c3,hf⟩:=Zgn (HV.out.below HB.out) hlt
    have hnx:=HI.out
    rw [ZmE hlt] at hnx
    obtain ⟨⟨sq,⟨at_,fs⟩⟩,hd⟩:∃ d,l[i]=d:=⟨_,rfl⟩
    rw [hd] at c1 c2 hf hnx
    dsimp only at c1 c2 hf hnx
    obtain ⟨pf,cf,rfl,_⟩:=hf.shape
    unfold okS at hnx
    dsimp only at hnx
    obtain ⟨q,hq⟩:∃ q,wr.heap.size=q:=⟨_,rfl⟩
    obtain ⟨w1,hw1⟩:∃ w1,wr.alloc (.cells #[.int .i64 sq,.int .i64 at_,.slice pf fs.length cf] 59)=w1:=⟨_,rfl⟩
    have hb1:Below wr.heap.size wr w1:=by rw [← hw1];exact (Below.refl _ _).alloc (Nat.le_refl _) _
    have T1:Hid (Zbz w1 q 59 (.int .i64 sq) (.int .i64 at_) (.slice pf fs.length cf)):=Lib.hid (by rw [← hw1,← hq];exact ZxD wr 59 _ _ _)
    have HB1:=Lib.hid (HB.out.trans (hb1.mono HB.out.size))
    have HC:=Lib.hid (EV.ZeI at_ (.slice pf fs.length cf) fs w1 (hf.any.below hb1))
    have HW1:=Lib.hid hw1
    clear hb1 hw1 hf HB
    by_cases h1:z<sq
    ·by_cases h2:sq≤1099511627776
     ·have t1:decide (sq≤z)=false:=by rw [decide_eq_false_iff_not];omega
      have t2:decide (sq>1099511627776)=false:=by rw [decide_eq_false_iff_not];omega
      have t3:decide (1099511627776<sq)=false:=by rw [decide_eq_false_iff_not];omega
      rw [decide_eq_true h1,decide_eq_true h2,Bool.true_and,Bool.true_and] at hnx
      have HN:=Lib.hid hnx
      have HLT:=Lib.hid hlt
      clear HI hnx hd h1 h2 hlt
      go_wp2_with fail
      rw [HW1.out]
      refine HC.out.mono ?_
      rintro e w2 ⟨rfl,hb2⟩
      have HB2:=Lib.hid (HB1.out.trans (hb2.mono HB1.out.size))
      obtain ⟨f0,f1,f2⟩:=(T1.out.below hb2 T1.out.lt).cells
      clear hb2 HC c1 c2 c3 T1 HB1
      obtain ⟨c,hc⟩:∃ c,ZeD (at_,fs)=c:=⟨_,rfl⟩
      have hn:=HN.out
      rw [hc] at hn ⊢
      by_cases h3:c=0
      ·have t4:(c != 0)=false:=by simp [h3]
       rw [decide_eq_true h3,Bool.true_and] at hn
       have HN2:=Lib.hid hn
       clear HN hn hc h3
       go_wp2_with fail
       have hlt:=HLT.out
       go_roundw
       case rel=>exact ⟨i+1,sq,by omega,by go_num,rfl,HN2,HB2⟩
       case measure=>simp [intOf];omega
      ·have t4:(c != 0)=true:=by simp [h3]
       rw [decide_eq_false h3,Bool.false_and] at hn
       subst hn
       clear HN hc h3
       go_wp2_with fail
       go_ret
       exact ⟨rfl,HB2.out⟩
     ·have t1:decide (sq≤z)=false:=by rw [decide_eq_false_iff_not];omega
      have t2:decide (sq>1099511627776)=true:=by rw [decide_eq_true_eq];omega
      have t3:decide (1099511627776<sq)=true:=by rw [decide_eq_true_eq];omega
      rw [decide_eq_false h2,Bool.and_false,Bool.false_and,Bool.false_and] at hnx
      subst hnx
      have HB9:Hid (Below w.heap.size w (wr.alloc (.cells #[.int .i64 sq,.int .i64 at_,.slice pf fs.length cf] 59))):=Lib.hid (by rw [HW1.out];exact HB1.out)
      clear HI hd h1 h2 HC T1 HB1 HW1
      go_wp2_with fail
      go_ret
      exact ⟨rfl,HB9.out⟩
    ·have t1:decide (sq≤z)=true:=by rw [decide_eq_true_eq];omega
     rw [decide_eq_false h1,Bool.false_and,Bool.false_and,Bool.false_and] at hnx
     subst hnx
     have HB9:Hid (Below w.heap.size w (wr.alloc (.cells #[.int .i64 sq,.int .i64 at_,.slice pf fs.length cf] 59))):=Lib.hid (by rw [HW1.out];exact HB1.out)
     clear HI hd h1 HC T1 HB1 HW1
     go_wp2_with fail
     go_ret
     exact ⟨rfl,HB9.out⟩
   ·obtain rfl:i=l.length:=by omega
    have q1:decide ((l.length:Int)<(l.length:Int))=false:=by simp
    have q2:decide (l.length<l.length)=false:=by simp
    have hn:=HI.out
    rw [ZmC] at hn
    subst hn
    clear HI hlt
    go_wp2_with fail
    go_ret
    exact ⟨rfl,HB.out⟩
 ·have q0:decide ((l.length:Int)>65536)=true:=by rw [decide_eq_true_eq];omega
  have q00:decide (65536<l.length)=true:=decide_eq_true (by omega)
  have e:isS l=false:=by unfold isS;rw [decide_eq_false hl];rfl
  rw [e]
  clear e hv hl
  go_enter Tryz.func38,Tryz.ntmps38
  go_wp2_with fail
  go_ret
  exact ⟨rfl,Below.refl _ _⟩
end Go.Proofs.YtdijhifdjbnkfaaGreat.ST
namespace Go.Proofs.YtdijhifdjbnkfaaGreat.GM
open Go
open EM (Tr Zrf)
open PM (Post)
open DM (Ent)
open DT (ZiB)
theorem Zrx (r:Tr Post) (rows:List (Tr Post)):Zrw (r::rows)=PM.encL r.2++Zrw rows:=by simp [Zrw]
theorem ZhN:∀ (rows:List (Tr Post)) (off:Int) (u:List UInt8),(ZiB (ZhC off rows) u=none∧Zrf rows u=[]) ∨
  ∃ (k:Nat) (hk:k<rows.length),ZiB (ZhC off rows) u=some (u,(off+((Zrw (rows.take k)).length:Int),(((PM.encL rows[k].2).length:Int),(rows[k].2.length:Int))))∧Zrf rows u=rows[k].2∧rows[k].1=u
 | [],off,u=>.inl ⟨rfl,rfl⟩
 | r::rows,off,u=>by
   by_cases h:r.1=u
   ·refine .inr ⟨0,by simp,?_,?_,h⟩
    ·unfold ZiB
     rw [ZhC,List.find?_cons]
     simp [h,Zrw]
    ·rw [Zrf,if_pos h];rfl
   ·have e:ZiB (ZhC off (r::rows)) u=ZiB (ZhC (off+((PM.encL r.2).length:Int)) rows) u:=by
     unfold ZiB
     rw [ZhC,List.find?_cons]
     simp [h]
    rw [e,Zrf,if_neg h]
    rcases ZhN rows (off+((PM.encL r.2).length:Int)) u with h1 | ⟨k,hk,h1,h2,h3⟩
    ·exact .inl h1
    ·refine .inr ⟨k+1,by simpa using hk,?_,h2,h3⟩
     rw [h1,List.take_succ_cons,Zrx,List.length_append]
     simp only [List.getElem_cons_succ,Option.some.injEq,Prod.mk.injEq,true_and,and_true]
     omega
theorem ZrH {rows:List (Tr Post)} {k:Nat} (hk:k<rows.length):((Zrw rows).drop (Zrw (rows.take k)).length).take (PM.encL rows[k].2).length=PM.encL rows[k].2∧(Zrw (rows.take k)).length+(PM.encL rows[k].2).length≤(Zrw rows).length:=by
 have e:Zrw rows=Zrw (rows.take k)++(PM.encL rows[k].2++Zrw (rows.drop (k+1))):=by
  rw [← Zrx,← List.drop_eq_getElem_cons hk]
  unfold Zrw
  rw [← List.flatMap_append,List.take_append_drop]
 constructor
 ·rw [e,List.drop_left,List.take_left]
 ·have h:=congrArg List.length e
  simp only [List.length_append] at h
  omega
end Go.Proofs.YtdijhifdjbnkfaaGreat.GM
namespace Go.Proofs.YtdijhifdjbnkfaaGreat.SG
open Go Go.RowKit MM
open EV (docC fldC Zgn)
open SM (Doc)
end Go.Proofs.YtdijhifdjbnkfaaGreat.SG
namespace Go.Proofs.YtdijhifdjbnkfaaGreat.SG
open Go Go.RowKit MM
open EV (docC fldC Zgn)
open SM (Doc)
end Go.Proofs.YtdijhifdjbnkfaaGreat.SG
namespace Go.Proofs.YtdijhifdjbnkfaaGreat.GM
open Go VM
open EM (Ev Fld ZvV ZdV ZdX ZeD ZeE Zoz)
open SM (Doc isS ZmG encS Zsj oneB ZpE Zli Zk9 Zdt ZmH)
def fewF (fs:List Fld):List Fld:=(fs.take 8).map fun f=>(f.1,f.2.take 300)
def fewD (d:Doc):Doc:=(d.1,(d.2.1,fewF d.2.2))
def Zil (l:List Doc):List Doc:=(l.take 40).map fewD
def fewG (l:List Doc):List Doc:=Zil (l.take 25)
theorem Zir (l:List Doc):(fewG l).length≤25:=by unfold fewG Zil;simp;omega
theorem Ziq {l:List Doc} (h:SM.FitS l):SM.FitS (fewG l):=fun d hd=>by
 unfold fewG Zil at hd
 obtain ⟨e,he,rfl⟩:=List.mem_map.1 hd
 exact h e (List.mem_of_mem_take (List.mem_of_mem_take he))
theorem Zip:∀ {fs:List Fld},(∀ f∈fs,f.1.length≤32∧f.2.length≤300)→ZvV fs≤332*fs.length
 | [],_=>by simp [ZvV]
 | f::r,h=>by
   have h1:=h f (by simp)
   have h2:=Zip (fs:=r) fun g hg=>h g (List.mem_cons_of_mem _ hg)
   rw [ZvW,List.length_cons]
   omega
theorem Zso {l:List Doc} {m:Nat} (h:∀ k (hk:k<l.length),(oneB l k).length≤m):(Zsj l 0 l.length).length≤m*l.length:=by
 unfold Zsj
 have:=ZiW (l:=List.range' 0 (l.length - 0)) (f:=oneB l) (m:=m) fun k hk=>h k (by rw [List.mem_range'_1] at hk;omega)
 rw [List.length_range'] at this
 simpa using this
theorem Zll (l:List Doc) (c:Nat):(Zli l 0 c).length≤20*c:=by
 unfold Zli
 have:=ZiW (l:=List.range' 0 c) (f:=Zk9 l) (m:=20) fun k _=>by
  have b1:=(Zea (SM.Zm9 l (SM.endS l k)).toNat).2
  have b2:=(Zea (Zsj l (16*k) (SM.endS l k)).length).2
  unfold Zk9
  rw [List.length_append]
  omega
 rw [List.length_range'] at this
 exact this
theorem Zis (l:List Doc):Zbs (fewG l):=fun hs=>by
 have hl:=Zir l
 have hone:∀ k (hk:k<(fewG l).length),(oneB (fewG l) k).length≤2846:=fun k hk=>by
  obtain ⟨h1,h2⟩:=ZeE.1 (ZmG hs hk).2.2
  have hm:(fewG l)[k]∈fewG l:=List.getElem_mem hk
  unfold fewG Zil at hm
  obtain ⟨e,he,heq⟩:=List.mem_map.1 hm
  change fewD e=(fewG l)[k] at heq
  rw [← heq] at h1 h2
  have h8:(fewF e.2.2).length≤8:=by unfold fewF;rw [List.length_map,List.length_take];omega
  have hsz:=Zip (fs:=fewF e.2.2) fun f hf=>by
   refine ⟨Zoz (h2 f hf).1,?_⟩
   unfold fewF at hf
   obtain ⟨g,_,rfl⟩:=List.mem_map.1 hf
   show (g.2.take 300).length≤300
   rw [List.length_take];omega
  have hb:=(ZdX (fewD e).2).1
  have e2:(fewD e).2.2=fewF e.2.2:=rfl
  rw [e2] at hb
  have b1:=(Zea (((fewG l)[k]).1 - SM.Zm9 (fewG l) k - 1).toNat).2
  rw [ZpE hk,List.length_append,← heq] at *
  omega
 have h1:=Zso hone
 have h2:=Zll (fewG l) (Zdt (fewG l).length)
 have h3:=(Zea (fewG l).length).2
 have h4:Zdt (fewG l).length≤2:=by unfold Zdt;omega
 unfold SM.encS
 simp only [List.length_append]
 omega
end Go.Proofs.YtdijhifdjbnkfaaGreat.GM
