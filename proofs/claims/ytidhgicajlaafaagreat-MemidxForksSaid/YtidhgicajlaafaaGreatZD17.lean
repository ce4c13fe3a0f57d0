import Derived.Test.YtidhgicajlaafaaGreatZD11
import Derived.Test.YtidhgicajlaafaaGreatZD16
set_option maxRecDepth 100000
set_option maxHeartbeats 8000000
set_option linter.unusedVariables false
set_option linter.unusedSimpArgs false
namespace Go.Proofs.YtidhgicajlaafaaGreat.EV
open Go Go.RowKit MM EM
open TK (nameL isname_any risname_any TruthLeft str_size)
theorem name_any (l:List UInt8) (w:World):Calls Tryz.prog 83 #[.string ⟨l.toArray⟩] w (TruthLeft (nameL l) w):=by
 have h:=Lib.hid (isname_any ⟨l.toArray⟩ w)
 rw [str_list] at h
 go_enter Tryz.func83,Tryz.ntmps83
 go_wp2_with fail
 refine h.out.mono ?_
 rintro e w2 ⟨rfl,hb⟩
 have HB:=Lib.hid hb
 clear h hb
 go_wp2_with fail
 go_ret
 exact ⟨rfl,HB.out⟩
theorem rname_any (l:List UInt8) (w:World):Calls Tryz.prog 78 #[.string ⟨l.toArray⟩] w (TruthLeft (nameL l) w):=by
 by_cases h:l.length≤1000000000000
 ·have:=risname_any ⟨l.toArray⟩ w (by rw [str_sz];exact h)
  rw [str_list] at this
  exact this
 ·have e:nameL l=false:=by unfold TK.nameL;rw [decide_eq_false (show ¬ (1≤l.length∧l.length≤32) by omega)];simp
  rw [e]
  have t1:decide ((l.length:Int)<1)=false:=by rw [decide_eq_false_iff_not];omega
  have t2:decide (l.length<1)=false:=by rw [decide_eq_false_iff_not];omega
  have t3:decide ((l.length:Int)>32)=true:=by rw [decide_eq_true_eq];omega
  have t4:decide (32<l.length)=true:=by rw [decide_eq_true_eq];omega
  have hs:=str_sz l
  clear e h
  go_enter Tryz.func78,Tryz.ntmps78
  go_wp2_with fail
  go_ret
  exact ⟨rfl,Below.refl _ _⟩
def IntLeft (z:Int) (w:World) (e:Ending) (w':World):Prop:=e=.returned (.int .i64 z)∧Below w.heap.size w w'
theorem check_any (z:Int) (v:Value) (fs:List Fld) (w:World) (hr:RAny fldC w v fs):Calls Tryz.prog 65 #[.agg #[.int .i64 z,v]] w (IntLeft (checkE (z,fs)) w):=by
 obtain ⟨p,cap,rfl,hlc,hcm,_⟩:=hr.shape
 unfold maxLen at hcm
 by_cases h16:16<fs.length
 ·have t1:decide ((fs.length:Int)>16)=true:=by rw [decide_eq_true_eq];omega
  have e:checkE (z,fs)=3:=by unfold checkE;rw [if_pos h16]
  rw [e]
  clear e hr h16
  have hb:Below w.heap.size w (w.alloc (.cells #[.int .i64 z,.slice p fs.length cap] 51)):=(Below.refl _ _).alloc (Nat.le_refl _) _
  have HB:=Lib.hid hb
  clear hb
  go_enter Tryz.func65,Tryz.ntmps65
  go_wp2_with fail
  go_ret
  exact ⟨rfl,HB.out⟩
 ·have t1:decide ((fs.length:Int)>16)=false:=by rw [decide_eq_false_iff_not];omega
  obtain ⟨RES,hRES⟩:∃ RES,checkE (z,fs)=RES:=⟨_,rfl⟩
  have h0:checkF (fs.drop 0)=RES:=by rw [← hRES];unfold checkE;rw [if_neg h16];rfl
  rw [hRES]
  have hb:Below w.heap.size w (w.alloc (.cells #[.int .i64 z,.slice p fs.length cap] 51)):=(Below.refl _ _).alloc (Nat.le_refl _) _
  have HB:=Lib.hid hb
  have H0:=Lib.hid h0
  have HR:=Lib.hid hr
  clear hb h0 hr hRES h16
  go_enter Tryz.func65,Tryz.ntmps65
  go_wp2_with fail
  go_loopw [12] (fun iv wr=>∃ i:Nat,i≤fs.length∧iv=.int .i64 i∧Hid (checkF (fs.drop i)=RES)∧Hid (Below w.heap.size w wr)) (fun iv _=>fs.length - (intOf iv).toNat)
  case atStart=>exact ⟨0,by omega,rfl,H0,HB⟩
  case round =>
   obtain ⟨i,hi,rfl,HI,HB1⟩:=hrel
   clear H0 HB
   by_cases hlt:i<fs.length
   ·have q1:decide ((i:Int)<(fs.length:Int))=true:=by rw [decide_eq_true_eq];omega
    have q2:decide (i<fs.length)=true:=by rw [decide_eq_true_eq];omega
    obtain ⟨b,off,rfl,hbl,_,c1,c2⟩:=fld_at (HR.out.below HB1.out) hlt
    have hnext:=HI.out
    rw [checkF_next hlt] at hnext
    generalize fs[i].1=n at *
    generalize fs[i].2=x at *
    have HN:=Lib.hid hnext
    have HLT:=Lib.hid hlt
    have hk:=fun W=>name_any n W
    generalize nameL n=nb at *
    have HK:=Lib.hid hk
    have hwr:=HB1.out.size
    clear hnext HI hk hlt
    go_wp2_with fail
    refine (HK.out _).mono ?_
    rintro e w2 ⟨rfl,hb2⟩
    have hb3:Below wr.heap.size wr w2:=((Below.refl _ wr).alloc (Nat.le_refl _) _).trans (hb2.mono (by simp))
    have cx:w2.cell? ⟨wr.heap.size,1,none⟩=some (.string ⟨x.toArray⟩):=(hb2.cell (p:=⟨wr.heap.size,1,none⟩) (by simp)).trans (new_two wr _ _ _).2
    have HB2:=Lib.hid (HB1.out.trans (hb3.mono hwr))
    clear hb2 hb3 HK c1 c2 hwr
    cases nb with
    | false =>
      have hn:=HN.out
      rw [if_pos rfl] at hn
      subst hn
      clear HN
      go_wp2_with fail
      go_ret
      exact ⟨rfl,HB2.out⟩
    | true =>
      by_cases h4:4096<x.length
      ·have q3:decide ((x.length:Int)>4096)=true:=by rw [decide_eq_true_eq];omega
       have hn:=HN.out
       rw [if_neg (by simp),if_pos h4] at hn
       subst hn
       clear HN h4
       go_wp2_with fail
       go_ret
       exact ⟨rfl,HB2.out⟩
      ·have q3:decide ((x.length:Int)>4096)=false:=by rw [decide_eq_false_iff_not];omega
       have hn:=HN.out
       rw [if_neg (by simp),if_neg h4] at hn
       have HN2:=Lib.hid hn
       clear HN h4 hn
       go_wp2_with fail
       have hlt:=HLT.out
       go_roundw
       case rel=>exact ⟨i+1,by omega,by go_num,HN2,HB2⟩
       case measure=>simp [intOf];omega
   ·obtain rfl:i=fs.length:=by omega
    have q1:decide ((fs.length:Int)<(fs.length:Int))=false:=by simp
    have q2:decide (fs.length<fs.length)=false:=by simp
    have hn:=HI.out
    rw [List.drop_length] at hn
    have hn:0=RES:=hn
    subst hn
    clear HI
    go_wp2_with fail
    go_ret
    exact ⟨rfl,HB1.out⟩
def evBox (w:World) (z:Int) (v:Value):World:=w.alloc (.cells #[.int .i64 z,v] 51)
theorem box_below (w:World) (z:Int) (v:Value):Below w.heap.size w (evBox w z v):=(Below.refl _ _).alloc (Nat.le_refl _) _
theorem box_size (w:World) (z:Int) (v:Value):(evBox w z v).heap.size=w.heap.size+1:=by unfold evBox;simp
theorem box_at (w:World) (z:Int) (v:Value):(evBox w z v).cell? ⟨w.heap.size,0,none⟩=some (.int .i64 z)∧(evBox w z v).cell? ⟨w.heap.size,1,none⟩=some v:=new_two w _ _ _
theorem box_in {w wr:World} {z:Int} {v:Value} (h:Below (evBox w z v).heap.size (evBox w z v) wr):wr.cell? ⟨w.heap.size,0,none⟩=some (.int .i64 z)∧wr.cell? ⟨w.heap.size,1,none⟩=some v∧Below w.heap.size w wr :=
 ⟨(h.cell (p:=⟨w.heap.size,0,none⟩) (by rw [box_size];simp)).trans (box_at w z v).1,(h.cell (p:=⟨w.heap.size,1,none⟩) (by rw [box_size];simp)).trans (box_at w z v).2,(box_below w z v).trans (h.mono (by rw [box_size];omega))⟩
theorem rcheck_any (z:Int) (v:Value) (fs:List Fld) (w:World) (hr:RAny fldC w v fs):Calls Tryz.prog 59 #[.agg #[.int .i64 z,v]] w (IntLeft (checkE (z,fs)) w):=by
 obtain ⟨p,cap,rfl,hlc,hcm,_⟩:=hr.shape
 unfold maxLen at hcm
 by_cases h16:16<fs.length
 ·have t1:decide ((fs.length:Int)>16)=true:=by rw [decide_eq_true_eq];omega
  have e:checkE (z,fs)=3:=by unfold checkE;rw [if_pos h16]
  rw [e]
  clear e hr h16
  have HB:=Lib.hid (box_below w z (.slice p fs.length cap))
  go_enter Tryz.func59,Tryz.ntmps59
  go_wp2_with fail
  go_ret
  exact ⟨rfl,HB.out⟩
 ·have t1:decide ((fs.length:Int)>16)=false:=by rw [decide_eq_false_iff_not];omega
  obtain ⟨RES,hRES⟩:∃ RES,checkE (z,fs)=RES:=⟨_,rfl⟩
  have h0:checkF (fs.drop 0)=RES:=by rw [← hRES];unfold checkE;rw [if_neg h16];rfl
  rw [hRES]
  have HB:=Lib.hid (Below.refl (evBox w z (.slice p fs.length cap)).heap.size (evBox w z (.slice p fs.length cap)))
  have H0:=Lib.hid h0
  have HR:=Lib.hid hr
  clear h0 hr hRES h16
  go_enter Tryz.func59,Tryz.ntmps59
  go_wp2_with fail
  go_loopw [3] (fun iv wr=>∃ i:Nat,i≤fs.length∧iv=.int .i64 i∧Hid (checkF (fs.drop i)=RES)∧Hid (Below (evBox w z (.slice p fs.length cap)).heap.size (evBox w z (.slice p fs.length cap)) wr)) (fun iv _=>fs.length - (intOf iv).toNat)
  case atStart=>exact ⟨0,by omega,rfl,H0,HB⟩
  case round =>
   obtain ⟨i,hi,rfl,HI,HB1⟩:=hrel
   clear H0 HB
   obtain ⟨_,cb,hbw⟩:=box_in HB1.out
   by_cases hlt:i<fs.length
   ·have q1:decide ((i:Int)<(fs.length:Int))=true:=by rw [decide_eq_true_eq];omega
    have q2:decide (i<fs.length)=true:=by rw [decide_eq_true_eq];omega
    obtain ⟨b,off,rfl,hbl,_,c1,c2⟩:=fld_at (HR.out.below hbw) hlt
    have hnext:=HI.out
    rw [checkF_next hlt] at hnext
    generalize fs[i].1=n at *
    generalize fs[i].2=x at *
    have HN:=Lib.hid hnext
    have HLT:=Lib.hid hlt
    have hk:=rname_any n wr
    generalize nameL n=nb at *
    have HK:=Lib.hid hk
    have hwr:=HB1.out.size
    have hbw0:=hbw.size
    rw [box_size] at hwr
    clear hnext HI hk hlt hbw
    go_wp2_with fail
    refine HK.out.mono ?_
    rintro e w2 ⟨rfl,hb2⟩
    have cx:w2.cell? ⟨b,off+i*2+1,none⟩=some (.string ⟨x.toArray⟩):=(hb2.cell (p:=⟨b,off+i*2+1,none⟩) hbl).trans c2
    have cb2:w2.cell? ⟨w.heap.size,1,none⟩=some (.slice (some ⟨b,off,none⟩) fs.length cap):=(hb2.cell (p:=⟨w.heap.size,1,none⟩) (show w.heap.size<wr.heap.size by omega)).trans cb
    have HB2:=Lib.hid (HB1.out.trans (hb2.mono HB1.out.size))
    clear hb2 HK c1 c2 cb hwr hbw0
    cases nb with
    | false =>
      have hn:=HN.out
      rw [if_pos rfl] at hn
      subst hn
      clear HN
      go_wp2_with fail
      go_ret
      exact ⟨rfl,(box_in HB2.out).2.2⟩
    | true =>
      by_cases h4:4096<x.length
      ·have q3:decide ((x.length:Int)>4096)=true:=by rw [decide_eq_true_eq];omega
       have hn:=HN.out
       rw [if_neg (by simp),if_pos h4] at hn
       subst hn
       clear HN h4
       go_wp2_with fail
       go_ret
       exact ⟨rfl,(box_in HB2.out).2.2⟩
      ·have q3:decide ((x.length:Int)>4096)=false:=by rw [decide_eq_false_iff_not];omega
       have hn:=HN.out
       rw [if_neg (by simp),if_neg h4] at hn
       have HN2:=Lib.hid hn
       clear HN h4 hn
       go_wp2_with fail
       have hlt:=HLT.out
       go_roundw
       case rel=>exact ⟨i+1,by omega,by go_num,HN2,HB2⟩
       case measure=>simp [intOf];omega
   ·obtain rfl:i=fs.length:=by omega
    have q1:decide ((fs.length:Int)<(fs.length:Int))=false:=by simp
    have q2:decide (fs.length<fs.length)=false:=by simp
    have hn:=HI.out
    rw [List.drop_length] at hn
    have hn:0=RES:=hn
    subst hn
    have HBW:=Lib.hid hbw
    clear HI hbw
    go_wp2_with fail
    go_ret
    exact ⟨rfl,HBW.out⟩
theorem wrap_add (a b:Int):wrap64 (wrap64 a+b)=wrap64 (a+b):=by unfold wrap64;omega
theorem wrap_add2 (a b:Int):wrap64 (a+wrap64 b)=wrap64 (a+b):=by unfold wrap64;omega
def sizeW (fs:List Fld):Int:=wrap64 (16+(sizeF fs:Int))
theorem sizeW_next {fs:List Fld} {k:Nat} (hk:k<fs.length):wrap64 (sizeW (fs.take k)+((fs[k].1.length:Int)+(fs[k].2.length:Int)))=sizeW (fs.take (k+1)):=by
 unfold sizeW
 rw [wrap_add,sizeF_next hk]
 congr 1
 omega
theorem sizeW_small {fs:List Fld} (h:sizeF fs≤1000000000000):sizeW fs=(16+sizeF fs:Nat):=by unfold sizeW wrap64;omega
end Go.Proofs.YtidhgicajlaafaaGreat.EV
namespace Go.Proofs.YtidhgicajlaafaaGreat.EV
open Go Go.RowKit MM EM
theorem size_any (z:Int) (v:Value) (fs:List Fld) (w:World) (hr:RAny fldC w v fs):Calls Tryz.prog 66 #[.agg #[.int .i64 z,v]] w (IntLeft (sizeW fs) w):=by
 obtain ⟨p,cap,rfl,hlc,hcm,_⟩:=hr.shape
 unfold maxLen at hcm
 have HB:=Lib.hid (box_below w z (.slice p fs.length cap))
 have HR:=Lib.hid hr
 have H0:Hid (sizeW (fs.take 0)=16):=Lib.hid (by simp [sizeW,sizeF,wrap64])
 clear hr
 go_enter Tryz.func66,Tryz.ntmps66
 go_wp2_with fail
 go_loopw [3,9] (fun sv iv wr=>∃ (i:Nat) (s:Int),i≤fs.length∧iv=.int .i64 i∧sv=.int .i64 s∧Hid (sizeW (fs.take i)=s)∧Hid (Below w.heap.size w wr)) (fun _ iv _=>fs.length - (intOf iv).toNat)
 case atStart=>exact ⟨0,16,by omega,rfl,rfl,H0,HB⟩
 case round =>
  obtain ⟨i,s,hi,rfl,rfl,HI,HB1⟩:=hrel
  clear H0 HB
  by_cases hlt:i<fs.length
  ·have q1:decide ((i:Int)<(fs.length:Int))=true:=by rw [decide_eq_true_eq];omega
   have q2:decide (i<fs.length)=true:=by rw [decide_eq_true_eq];omega
   obtain ⟨b,off,rfl,hbl,_,c1,c2⟩:=fld_at (HR.out.below HB1.out) hlt
   have hnext:=sizeW_next hlt
   rw [HI.out,← wrap_add2] at hnext
   generalize fs[i].1=n at *
   generalize fs[i].2=x at *
   have HN:=Lib.hid hnext
   have HLT:=Lib.hid hlt
   have hb3:Below wr.heap.size wr (wr.alloc (.cells #[.string ⟨n.toArray⟩,.string ⟨x.toArray⟩] 93)):=(Below.refl _ wr).alloc (Nat.le_refl _) _
   have HB2:=Lib.hid (HB1.out.trans (hb3.mono HB1.out.size))
   clear hnext HI hlt hb3
   go_wp2_with fail
   have hlt:=HLT.out
   go_roundw
   case rel=>exact ⟨i+1,_,by omega,by go_num,rfl,Lib.hid HN.out.symm,HB2⟩
   case measure=>simp [intOf];omega
  ·obtain rfl:i=fs.length:=by omega
   have q1:decide ((fs.length:Int)<(fs.length:Int))=false:=by simp
   have q2:decide (fs.length<fs.length)=false:=by simp
   have hn:=HI.out
   rw [List.take_length] at hn
   subst hn
   clear HI
   go_wp2_with fail
   go_ret
   exact ⟨rfl,HB1.out⟩
end Go.Proofs.YtidhgicajlaafaaGreat.EV
namespace Go.Proofs.YtidhgicajlaafaaGreat.EV
open Go Go.RowKit MM EM
theorem rsize_any (z:Int) (v:Value) (fs:List Fld) (w:World) (hr:RAny fldC w v fs):Calls Tryz.prog 69 #[.agg #[.int .i64 z,v]] w (IntLeft (sizeW fs) w):=by
 obtain ⟨p,cap,rfl,hlc,hcm,_⟩:=hr.shape
 unfold maxLen at hcm
 have HB:=Lib.hid (Below.refl (evBox w z (.slice p fs.length cap)).heap.size (evBox w z (.slice p fs.length cap)))
 have HR:=Lib.hid hr
 have H0:Hid (sizeW (fs.take 0)=16):=Lib.hid (by simp [sizeW,sizeF,wrap64])
 clear hr
 go_enter Tryz.func69,Tryz.ntmps69
 go_wp2_with fail
 go_loopw [3,4] (fun sv iv wr=>∃ (i:Nat) (s:Int),i≤fs.length∧iv=.int .i64 i∧sv=.int .i64 s∧Hid (sizeW (fs.take i)=s)∧Hid (Below (evBox w z (.slice p fs.length cap)).heap.size (evBox w z (.slice p fs.length cap)) wr)) (fun _ iv _=>fs.length - (intOf iv).toNat)
 case atStart=>exact ⟨0,16,by omega,rfl,rfl,H0,HB⟩
 case round =>
  obtain ⟨i,s,hi,rfl,rfl,HI,HB1⟩:=hrel
  clear H0 HB
  obtain ⟨_,cb,hbw⟩:=box_in HB1.out
  by_cases hlt:i<fs.length
  ·have q1:decide ((i:Int)<(fs.length:Int))=true:=by rw [decide_eq_true_eq];omega
   have q2:decide (i<fs.length)=true:=by rw [decide_eq_true_eq];omega
   have q3:(i:Int)<cap:=by omega
   have q4:(i:Int)<fs.length:=by omega
   obtain ⟨b,off,rfl,hbl,_,c1,c2⟩:=fld_at (HR.out.below hbw) hlt
   have hnext:=sizeW_next hlt
   rw [HI.out] at hnext
   generalize fs[i].1=n at *
   generalize fs[i].2=x at *
   have hn2:wrap64 (wrap64 (s+(n.length:Int))+(x.length:Int))=sizeW (fs.take (i+1)):=by rw [wrap_add,← hnext];congr 1;omega
   have HN:=Lib.hid hn2
   have HLT:=Lib.hid hlt
   clear hnext HI hbw hn2
   go_wp2_with fail
   go_quiet (fail)
   go_wp2_with fail
   have hlt:=HLT.out
   go_roundw
   case rel=>exact ⟨i+1,_,by omega,by go_num,rfl,Lib.hid HN.out.symm,Lib.hid (MM.below_drewN HB1.out _)⟩
   case measure=>simp [intOf];omega
  ·obtain rfl:i=fs.length:=by omega
   have q1:decide ((fs.length:Int)<(fs.length:Int))=false:=by simp
   have q2:decide (fs.length<fs.length)=false:=by simp
   have hn:=HI.out
   rw [List.take_length] at hn
   subst hn
   have HBW:=Lib.hid hbw
   clear HI hbw
   go_wp2_with fail
   go_ret
   exact ⟨rfl,HBW.out⟩
end Go.Proofs.YtidhgicajlaafaaGreat.EV
namespace Go.Proofs.YtidhgicajlaafaaGreat.EV
open Go Go.RowKit MM EM
def SomeBool (w:World) (e:Ending) (w':World):Prop:=∃ b,e=.returned (.bool b)∧Below w.heap.size w w'
theorem light_any (z:Int) (v:Value) (fs:List Fld) (w:World) (hr:RAny fldC w v fs):Calls Tryz.prog 28 #[.agg #[.int .i64 z,v]] w (SomeBool w):=by
 obtain ⟨p,cap,rfl,hlc,hcm,_⟩:=hr.shape
 unfold maxLen at hcm
 have HB:=Lib.hid (Below.refl (evBox w z (.slice p fs.length cap)).heap.size (evBox w z (.slice p fs.length cap)))
 have HR:=Lib.hid hr
 clear hr
 go_enter Tryz.func28,Tryz.ntmps28
 go_wp2_with fail
 go_loopw [3,4] (fun sv iv wr=>∃ (i n:Nat),i≤fs.length∧n≤3000∧iv=.int .i64 i∧sv=.int .i64 n∧Hid (Below (evBox w z (.slice p fs.length cap)).heap.size (evBox w z (.slice p fs.length cap)) wr)) (fun _ iv _=>fs.length - (intOf iv).toNat)
 case atStart=>exact ⟨0,0,by omega,by omega,rfl,rfl,HB⟩
 case round =>
  obtain ⟨i,n,hi,hn,rfl,rfl,HB1⟩:=hrel
  clear HB
  obtain ⟨_,cb,hbw⟩:=box_in HB1.out
  have HBW:=Lib.hid hbw
  by_cases hlt:i<fs.length
  ·have q1:decide ((i:Int)<(fs.length:Int))=true:=by rw [decide_eq_true_eq];omega
   have q2:decide (i<fs.length)=true:=by rw [decide_eq_true_eq];omega
   have q3:(i:Int)<cap:=by omega
   have q4:(i:Int)<fs.length:=by omega
   obtain ⟨b,off,rfl,hbl,_,c1,c2⟩:=fld_at (HR.out.below hbw) hlt
   generalize fs[i].1=nm at *
   generalize fs[i].2=x at *
   obtain ⟨m1,hm1⟩:∃ m:Nat,min 1000 (nm.length:Int)=(m:Int):=⟨min 1000 nm.length,by omega⟩
   obtain ⟨m2,hm2⟩:∃ m:Nat,min 1000 (x.length:Int)=(m:Int):=⟨min 1000 x.length,by omega⟩
   have hb1:m1≤1000:=by omega
   have hb2:m2≤1000:=by omega
   have HLT:=Lib.hid hlt
   by_cases h20:i<20
   ·have q5:decide ((i:Int)<20)=true:=by rw [decide_eq_true_eq];omega
    have q6:decide (i<20)=true:=by rw [decide_eq_true_eq];omega
    by_cases h1k:n<1000
    ·have q7:decide ((n:Int)<1000)=true:=by rw [decide_eq_true_eq];omega
     have q8:decide (n<1000)=true:=by rw [decide_eq_true_eq];omega
     have HM1:=Lib.hid hm1
     have HM2:=Lib.hid hm2
     clear hlt hbw hm1 hm2
     go_wp2_with fail
     go_quiet (fail)
     go_wp2_with fail
     have hlt:=HLT.out
     go_roundw
     case rel=>exact ⟨i+1,n+m1+m2,by omega,by omega,by go_num,(by rw [HM1.out,HM2.out];simp),Lib.hid (MM.below_drewN HB1.out _)⟩
     case measure=>simp [intOf];omega
    ·have q7:decide ((n:Int)<1000)=false:=by rw [decide_eq_false_iff_not];omega
     have q8:decide (n<1000)=false:=by rw [decide_eq_false_iff_not];omega
     clear hlt hbw hm1 hm2 h1k
     go_wp2_with fail
     go_ret
     exact ⟨_,rfl,HBW.out⟩
   ·have q5:decide ((i:Int)<20)=false:=by rw [decide_eq_false_iff_not];omega
    have q6:decide (i<20)=false:=by rw [decide_eq_false_iff_not];omega
    obtain ⟨bb,hbb⟩:∃ bb,decide ((n:Int)<1000)=bb:=⟨_,rfl⟩
    clear hlt hbw hm1 hm2 h20
    go_wp2_with fail
    go_ret
    exact ⟨_,rfl,HBW.out⟩
  ·obtain rfl:i=fs.length:=by omega
   have q1:decide ((fs.length:Int)<(fs.length:Int))=false:=by simp
   have q2:decide (fs.length<fs.length)=false:=by simp
   clear hbw hlt
   go_wp2_with fail
   go_ret
   exact ⟨_,rfl,HBW.out⟩
end Go.Proofs.YtidhgicajlaafaaGreat.EV
namespace Go.Proofs.YtidhgicajlaafaaGreat.EV
open Go Go.RowKit MM EM
def BoolLeft (b:Bool) (w:World) (e:Ending) (w':World):Prop:=e=.returned (.bool b)∧Below w.heap.size w w'
theorem drop_same {α:Type} [DecidableEq α] {a b:List α} {i:Nat} (ha:i<a.length) (hb:i<b.length):decide (a.drop i=b.drop i)=(decide (a[i]=b[i])&&decide (a.drop (i+1)=b.drop (i+1))):=by
 rw [List.drop_eq_getElem_cons ha,List.drop_eq_getElem_cons hb]
 rw [Bool.eq_iff_iff,decide_eq_true_eq,Bool.and_eq_true,decide_eq_true_eq,decide_eq_true_eq,List.cons.injEq]
theorem eq_fld (X1 X2 Y1 Y2:List UInt8) (W:World):(Op.equalIn 10000 93 (.agg #[.string ⟨X1.toArray⟩,.string ⟨X2.toArray⟩]) (.agg #[.string ⟨Y1.toArray⟩,.string ⟨Y2.toArray⟩])).run Tryz.prog W=.ok (decide (X1=Y1)&&decide (X2=Y2)) W:=by
 have s1:=same_list X1 Y1
 have s2:=same_list X2 Y2
 have ht:Tryz.prog.underlying 93=some (.struct (Tryz.prog.fieldsOf 93)):=by kernel_rfl
 have hp:Tryz.prog.stoodInHeld 93=false:=by kernel_rfl
 have hf:(Tryz.prog.fieldsOf 93).toList.map (fun f=>(f.name == "_", f.type,f.offset))=[(false,9,0),(false,9,1)]:=by kernel_rfl
 rw [show (10000:Nat)=9998+1+1 from rfl,run_equalIn_struct W _ _ _ _ ht hp]
 generalize (Tryz.prog.fieldsOf 93).toList=fs at hf
 obtain ⟨f0,f1,rfl⟩:∃ a b,fs=[a,b]:=by
  have hl:=congrArg List.length hf
  rw [List.length_map] at hl
  match fs,hl with
  | [a,b],_=>exact ⟨a,b,rfl⟩
 simp only [List.map_cons,List.map_nil,List.cons.injEq,Prod.mk.injEq,and_true] at hf
 obtain ⟨⟨n0,t0,o0⟩,⟨n1,t1,o1⟩⟩:=hf
 have n0:f0.name ≠ "_" := by simpa using n0
 have n1:f1.name ≠ "_" := by simpa using n1
 have a9:=Tryz.isAgg9
 have z9:=Tryz.sizeOf9
 have u9:=Tryz.underlying9
 simp only [Op.eqFields,n0,n1,t0,t1,o0,o1,ne_eq,not_false_eq_true,if_true]
 go_simp
 by_cases h1:X1=Y1<;>by_cases h2:X2=Y2<;>simp [s1,s2,h1,h2]
theorem two_boxes (w:World) (z1 z2:Int) (u v:Value):Below w.heap.size w (evBox (evBox w z1 u) z2 v):=(box_below w z1 u).trans ((box_below _ z2 v).mono (by rw [box_size];omega))
theorem boxes_in {w wr:World} {z1 z2:Int} {u v:Value} (h:Below (evBox (evBox w z1 u) z2 v).heap.size (evBox (evBox w z1 u) z2 v) wr) :
  wr.cell? ⟨w.heap.size,0,none⟩=some (.int .i64 z1)∧wr.cell? ⟨w.heap.size,1,none⟩=some u∧wr.cell? ⟨w.heap.size+1,0,none⟩=some (.int .i64 z2)∧wr.cell? ⟨w.heap.size+1,1,none⟩=some v∧Below w.heap.size w wr:=by
 obtain ⟨h1,h2,h3⟩:=box_in h
 rw [box_size] at h1 h2
 have h4:=box_in (w:=w) (z:=z1) (v:=u) (wr:=wr) (by rw [box_size] at h3 ⊢;exact h3)
 exact ⟨h4.1,h4.2.1,h1,h2,h4.2.2⟩
theorem ev_same (z1 z2:Int) (xs ys:List Fld):decide ((z1,xs)=(z2,ys))=((z1 == z2)&&decide (xs=ys)):=by
 rw [Bool.eq_iff_iff]
 simp
theorem rsame_any (z1 z2:Int) (u v:Value) (xs ys:List Fld) (w:World) (hu:RAny fldC w u xs) (hv:RAny fldC w v ys):Calls Tryz.prog 47 #[.agg #[.int .i64 z1,u],.agg #[.int .i64 z2,v]] w (BoolLeft (decide ((z1,xs)=(z2,ys))) w):=by
 have HB:=Lib.hid (two_boxes w z1 z2 u v)
 rw [ev_same]
 obtain ⟨p1,cap1,rfl,hl1,hm1,_⟩:=hu.shape
 obtain ⟨p2,cap2,rfl,hl2,hm2,_⟩:=hv.shape
 unfold maxLen at hm1 hm2
 by_cases h:z1=z2
 ·have t1:(z1 != z2)=false:=by simp [h]
  have e1:(z1 == z2)=true:=by simp [h]
  rw [e1,Bool.true_and]
  by_cases hn:xs.length=ys.length
  ·have t0:(((xs.length:Int)) != ((ys.length:Int)))=false:=by simp [hn]
   obtain ⟨n,hnn⟩:∃ n,xs.length=n:=⟨_,rfl⟩
   have hnb:ys.length=n:=by omega
   obtain ⟨RES,hRES⟩:∃ RES,decide (xs=ys)=RES:=⟨_,rfl⟩
   have h0:decide (xs.drop 0=ys.drop 0)=RES:=hRES
   rw [hRES]
   have H0:=Lib.hid h0
   have HU:=Lib.hid hu
   have HV:=Lib.hid hv
   have HNA:=Lib.hid hnn
   have HNB:=Lib.hid hnb
   rw [hnn,hnb] at t0
   rw [hnn] at hl1 HB ⊢
   rw [hnb] at hl2 HB ⊢
   have HBB:=Lib.hid (Below.refl (evBox (evBox w z1 (.slice p1 n cap1)) z2 (.slice p2 n cap2)).heap.size (evBox (evBox w z1 (.slice p1 n cap1)) z2 (.slice p2 n cap2)))
   clear h0 hu hv hRES hn hnn hnb h e1
   go_enter Tryz.func47,Tryz.ntmps47
   go_wp2_with fail
   go_loopw [5] (fun iv wr=>∃ i:Nat,i≤n∧iv=.int .i64 i∧Hid (decide (xs.drop i=ys.drop i)=RES)∧Hid (Below (evBox (evBox w z1 (.slice p1 n cap1)) z2 (.slice p2 n cap2)).heap.size (evBox (evBox w z1 (.slice p1 n cap1)) z2 (.slice p2 n cap2)) wr)) (fun iv _=>n - (intOf iv).toNat)
   case atStart=>exact ⟨0,by omega,rfl,H0,HBB⟩
   case round =>
    obtain ⟨i,hi,rfl,HI,HB1⟩:=hrel
    clear H0 HBB
    obtain ⟨_,k1,_,k2,hbw⟩:=boxes_in HB1.out
    by_cases hlt:i<n
    ·have q1:decide ((i:Int)<(n:Int))=true:=by rw [decide_eq_true_eq];omega
     have q2:decide (i<n)=true:=by rw [decide_eq_true_eq];omega
     have q3:(i:Int)<n:=by omega
     have ha:i<xs.length:=by rw [HNA.out];exact hlt
     have hb:i<ys.length:=by rw [HNB.out];exact hlt
     have hu1:=HU.out.below hbw
     have hv1:=HV.out.below hbw
     rw [HNA.out] at hu1
     rw [HNB.out] at hv1
     obtain ⟨b1,o1,rfl,hb1,_,c1,c2⟩:=fld_at hu1 ha
     obtain ⟨b2,o2,rfl,hb2,_,c3,c4⟩:=fld_at hv1 hb
     have hnx:=HI.out
     rw [drop_same ha hb] at hnx
     generalize xs[i]=X at *
     generalize ys[i]=Y at *
     have heq:=eq_fld X.1 X.2 Y.1 Y.2
     have hd:decide (X=Y)=(decide (X.1=Y.1)&&decide (X.2=Y.2)):=by
      rw [Bool.eq_iff_iff,decide_eq_true_eq,Bool.and_eq_true,decide_eq_true_eq,decide_eq_true_eq]
      exact Prod.ext_iff
     rw [hd] at hnx
     obtain ⟨X1,X2⟩:=X
     obtain ⟨Y1,Y2⟩:=Y
     dsimp only at *
     generalize decide (X1=Y1)=d1 at *
     generalize decide (X2=Y2)=d2 at *
     have HN:=Lib.hid hnx
     have HLT:=Lib.hid hlt
     have HBW:=Lib.hid hbw
     clear hnx hd hlt hu1 hv1 ha hb HI hbw
     cases d1<;>cases d2
     case true.true =>
      have hn:=HN.out
      rw [Bool.true_and,Bool.true_and] at hn
      have HN2:=Lib.hid hn
      clear HN hn
      go_wp2_with fail
      go_quiet (fail)
      go_wp2_with fail
      have hlt:=HLT.out
      go_roundw
      case rel=>exact ⟨i+1,by omega,by go_num,HN2,Lib.hid (MM.below_drewN HB1.out _)⟩
      case measure=>simp [intOf];omega
     all_goals
      have hn:=HN.out
      simp only [Bool.false_and,Bool.and_false] at hn
      subst hn
      clear HN
      go_wp2_with fail
      go_quiet (fail)
      go_wp2_with fail
      go_ret
      exact ⟨rfl,MM.below_drewN HBW.out _⟩
    ·obtain rfl:i=n:=by omega
     have q1:decide ((i:Int)<(i:Int))=false:=by simp
     have q2:decide (i<i)=false:=by simp
     have hf:RES=true:=by
      rw [← HI.out,List.drop_of_length_le (by rw [HNA.out];exact Nat.le_refl _),List.drop_of_length_le (by rw [HNB.out];exact Nat.le_refl _)]
      simp
     subst hf
     have HBW:=Lib.hid hbw
     clear HI hbw
     go_wp2_with fail
     go_ret
     exact ⟨rfl,HBW.out⟩
  ·have t0:(((xs.length:Int)) != ((ys.length:Int)))=true:=by simp;omega
   have e:decide (xs=ys)=false:=decide_eq_false fun h=>hn (by rw [h])
   rw [e]
   clear hu hv e hn h e1
   go_enter Tryz.func47,Tryz.ntmps47
   go_wp2_with fail
   go_ret
   exact ⟨rfl,HB.out⟩
 ·have t1:(z1 != z2)=true:=by simp [h]
  have e1:(z1 == z2)=false:=by simp [h]
  rw [e1,Bool.false_and]
  clear h hu hv e1
  go_enter Tryz.func47,Tryz.ntmps47
  go_wp2_with fail
  go_ret
  exact ⟨rfl,HB.out⟩
end Go.Proofs.YtidhgicajlaafaaGreat.EV
