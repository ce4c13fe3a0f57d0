import Derived.Test.YtdfbkhpkffpckaaZB24
set_option maxRecDepth 100000
set_option maxHeartbeats 8000000
set_option linter.unusedVariables false
set_option linter.unusedSimpArgs false
namespace Go.Proofs.Ytdfbkhpkffpckaa.EV
open Go Go.RowKit MM EM
def SomeBool (w:World) (e:Ending) (w':World):Prop:=∃ b,e=.returned (.bool b)∧Below w.heap.size w w'
theorem light_any (z:Int) (v:Value) (fs:List Fld) (w:World) (hr:RAny fldC w v fs):Calls Try.prog 16 #[.agg #[.int .i64 z,v]] w (SomeBool w):=by
 obtain ⟨p,cap,rfl,hlc,hcm,_⟩:=hr.shape
 unfold maxLen at hcm
 have HB:=Lib.hid (Below.refl (evBox w z (.slice p fs.length cap)).heap.size (evBox w z (.slice p fs.length cap)))
 have HR:=Lib.hid hr
 clear hr
 go_enter Try.func16,Try.ntmps16
 go_wp2_with fail
 go_loopw [3,4] (fun sv iv wr=>∃ (i n:Nat),i≤fs.length∧n≤3000∧iv=.int .i64 i∧sv=.int .i64 n∧Hid (Below (evBox w z (.slice p fs.length cap)).heap.size (evBox w z (.slice p fs.length cap)) wr)) (fun _ iv _=>fs.length - (intOf iv).toNat)
 case atStart=>exact ⟨0,0,by omega,by omega,rfl,rfl,HB⟩
 case round =>
  obtain ⟨i,n,hi,hn,rfl,rfl,HB1⟩:=hrel
  clear HB
  obtain ⟨_,cb,hbw⟩:=box_in HB1.out
  have HBW:=Lib.hid hbw
  by_cases hlt:i<fs.length
  ·have q1:decide ((i:Int)<(fs.length:Int))=true:=by rw [decide_eq_true_eq];omega
   have q2:decide (i<fs.length)=true:=by rw [decide_eq_true_eq];omega
   have q3:(i:Int)<cap:=by omega
   have q4:(i:Int)<fs.length:=by omega
   obtain ⟨b,off,rfl,hbl,_,c1,c2⟩:=fld_at (HR.out.below hbw) hlt
   generalize fs[i].1=nm at *
   generalize fs[i].2=x at *
   obtain ⟨m1,hm1⟩:∃ m:Nat,min 1000 (nm.length:Int)=(m:Int):=⟨min 1000 nm.length,by omega⟩
   obtain ⟨m2,hm2⟩:∃ m:Nat,min 1000 (x.length:Int)=(m:Int):=⟨min 1000 x.length,by omega⟩
   have hb1:m1≤1000:=by omega
   have hb2:m2≤1000:=by omega
   have HLT:=Lib.hid hlt
   by_cases h20:i<20
   ·have q5:decide ((i:Int)<20)=true:=by rw [decide_eq_true_eq];omega
    have q6:decide (i<20)=true:=by rw [decide_eq_true_eq];omega
    by_cases h1k:n<1000
    ·have q7:decide ((n:Int)<1000)=true:=by rw [decide_eq_true_eq];omega
     have q8:decide (n<1000)=true:=by rw [decide_eq_true_eq];omega
     have HM1:=Lib.hid hm1
     have HM2:=Lib.hid hm2
     clear hlt hbw hm1 hm2
     go_wp2_with fail
     go_quiet (fail)
     go_wp2_with fail
     have hlt:=HLT.out
     go_roundw
     case rel=>exact ⟨i+1,n+m1+m2,by omega,by omega,by go_num,(by rw [HM1.out,HM2.out];simp),Lib.hid (MM.below_drewN HB1.out _)⟩
     case measure=>simp [intOf];omega
    ·have q7:decide ((n:Int)<1000)=false:=by rw [decide_eq_false_iff_not];omega
     have q8:decide (n<1000)=false:=by rw [decide_eq_false_iff_not];omega
     clear hlt hbw hm1 hm2 h1k
     go_wp2_with fail
     go_ret
     exact ⟨_,rfl,HBW.out⟩
   ·have q5:decide ((i:Int)<20)=false:=by rw [decide_eq_false_iff_not];omega
    have q6:decide (i<20)=false:=by rw [decide_eq_false_iff_not];omega
    obtain ⟨bb,hbb⟩:∃ bb,decide ((n:Int)<1000)=bb:=⟨_,rfl⟩
    clear hlt hbw hm1 hm2 h20
    go_wp2_with fail
    go_ret
    exact ⟨_,rfl,HBW.out⟩
  ·obtain rfl:i=fs.length:=by omega
   have q1:decide ((fs.length:Int)<(fs.length:Int))=false:=by simp
   have q2:decide (fs.length<fs.length)=false:=by simp
   clear hbw hlt
   go_wp2_with fail
   go_ret
   exact ⟨_,rfl,HBW.out⟩
end Go.Proofs.Ytdfbkhpkffpckaa.EV
namespace Go.Proofs.Ytdfbkhpkffpckaa.EV
open Go Go.RowKit MM EM
theorem size_any (z:Int) (v:Value) (fs:List Fld) (w:World) (hr:RAny fldC w v fs):Calls Try.prog 90 #[.agg #[.int .i64 z,v]] w (IntLeft (sizeW fs) w):=by
 obtain ⟨p,cap,rfl,hlc,hcm,_⟩:=hr.shape
 unfold maxLen at hcm
 have HB:=Lib.hid (box_below w z (.slice p fs.length cap))
 have HR:=Lib.hid hr
 have H0:Hid (sizeW (fs.take 0)=16):=Lib.hid (by simp [sizeW,sizeF,wrap64])
 clear hr
 go_enter Try.func90,Try.ntmps90
 go_wp2_with fail
 go_loopw [3,9] (fun sv iv wr=>∃ (i:Nat) (s:Int),i≤fs.length∧iv=.int .i64 i∧sv=.int .i64 s∧Hid (sizeW (fs.take i)=s)∧Hid (Below w.heap.size w wr)) (fun _ iv _=>fs.length - (intOf iv).toNat)
 case atStart=>exact ⟨0,16,by omega,rfl,rfl,H0,HB⟩
 case round =>
  obtain ⟨i,s,hi,rfl,rfl,HI,HB1⟩:=hrel
  clear H0 HB
  by_cases hlt:i<fs.length
  ·have q1:decide ((i:Int)<(fs.length:Int))=true:=by rw [decide_eq_true_eq];omega
   have q2:decide (i<fs.length)=true:=by rw [decide_eq_true_eq];omega
   obtain ⟨b,off,rfl,hbl,_,c1,c2⟩:=fld_at (HR.out.below HB1.out) hlt
   have hnext:=sizeW_next hlt
   rw [HI.out,← wrap_add2] at hnext
   generalize fs[i].1=n at *
   generalize fs[i].2=x at *
   have HN:=Lib.hid hnext
   have HLT:=Lib.hid hlt
   have hb3:Below wr.heap.size wr (wr.alloc (.cells #[.string ⟨n.toArray⟩,.string ⟨x.toArray⟩] 85)):=(Below.refl _ wr).alloc (Nat.le_refl _) _
   have HB2:=Lib.hid (HB1.out.trans (hb3.mono HB1.out.size))
   clear hnext HI hlt hb3
   go_wp2_with fail
   have hlt:=HLT.out
   go_roundw
   case rel=>exact ⟨i+1,_,by omega,by go_num,rfl,Lib.hid HN.out.symm,HB2⟩
   case measure=>simp [intOf];omega
  ·obtain rfl:i=fs.length:=by omega
   have q1:decide ((fs.length:Int)<(fs.length:Int))=false:=by simp
   have q2:decide (fs.length<fs.length)=false:=by simp
   have hn:=HI.out
   rw [List.take_length] at hn
   subst hn
   clear HI
   go_wp2_with fail
   go_ret
   exact ⟨rfl,HB1.out⟩
end Go.Proofs.Ytdfbkhpkffpckaa.EV
namespace Go.Proofs.Ytdfbkhpkffpckaa.EV
open Go Go.RowKit MM EM
theorem rsize_any (z:Int) (v:Value) (fs:List Fld) (w:World) (hr:RAny fldC w v fs):Calls Try.prog 92 #[.agg #[.int .i64 z,v]] w (IntLeft (sizeW fs) w):=by
 obtain ⟨p,cap,rfl,hlc,hcm,_⟩:=hr.shape
 unfold maxLen at hcm
 have HB:=Lib.hid (Below.refl (evBox w z (.slice p fs.length cap)).heap.size (evBox w z (.slice p fs.length cap)))
 have HR:=Lib.hid hr
 have H0:Hid (sizeW (fs.take 0)=16):=Lib.hid (by simp [sizeW,sizeF,wrap64])
 clear hr
 go_enter Try.func92,Try.ntmps92
 go_wp2_with fail
 go_loopw [3,4] (fun sv iv wr=>∃ (i:Nat) (s:Int),i≤fs.length∧iv=.int .i64 i∧sv=.int .i64 s∧Hid (sizeW (fs.take i)=s)∧Hid (Below (evBox w z (.slice p fs.length cap)).heap.size (evBox w z (.slice p fs.length cap)) wr)) (fun _ iv _=>fs.length - (intOf iv).toNat)
 case atStart=>exact ⟨0,16,by omega,rfl,rfl,H0,HB⟩
 case round =>
  obtain ⟨i,s,hi,rfl,rfl,HI,HB1⟩:=hrel
  clear H0 HB
  obtain ⟨_,cb,hbw⟩:=box_in HB1.out
  by_cases hlt:i<fs.length
  ·have q1:decide ((i:Int)<(fs.length:Int))=true:=by rw [decide_eq_true_eq];omega
   have q2:decide (i<fs.length)=true:=by rw [decide_eq_true_eq];omega
   have q3:(i:Int)<cap:=by omega
   have q4:(i:Int)<fs.length:=by omega
   obtain ⟨b,off,rfl,hbl,_,c1,c2⟩:=fld_at (HR.out.below hbw) hlt
   have hnext:=sizeW_next hlt
   rw [HI.out] at hnext
   generalize fs[i].1=n at *
   generalize fs[i].2=x at *
   have hn2:wrap64 (wrap64 (s+(n.length:Int))+(x.length:Int))=sizeW (fs.take (i+1)):=by rw [wrap_add,← hnext];congr 1;omega
   have HN:=Lib.hid hn2
   have HLT:=Lib.hid hlt
   clear hnext HI hbw hn2
   go_wp2_with fail
   go_quiet (fail)
   go_wp2_with fail
   have hlt:=HLT.out
   go_roundw
   case rel=>exact ⟨i+1,_,by omega,by go_num,rfl,Lib.hid HN.out.symm,Lib.hid (MM.below_drewN HB1.out _)⟩
   case measure=>simp [intOf];omega
  ·obtain rfl:i=fs.length:=by omega
   have q1:decide ((fs.length:Int)<(fs.length:Int))=false:=by simp
   have q2:decide (fs.length<fs.length)=false:=by simp
   have hn:=HI.out
   rw [List.take_length] at hn
   subst hn
   have HBW:=Lib.hid hbw
   clear HI hbw
   go_wp2_with fail
   go_ret
   exact ⟨rfl,HBW.out⟩
end Go.Proofs.Ytdfbkhpkffpckaa.EV
