import Derived.Test.YtdfibahafilklaaGreatDoorZB26
import Derived.Test.YtdfibahafilklaaGreatDoorZB28
set_option maxRecDepth 100000
set_option maxHeartbeats 8000000
set_option linter.unusedVariables false
set_option linter.unusedSimpArgs false
namespace Go.Proofs.YtdfibahafilklaaGreatDoor.VP
open Go.RowKit MM VM
theorem rtext_any (s:ByteArray) (w:World) (hlen:s.size≤17592186044416) :
  Calls Tryz.prog 150 #[.string s] w (PutLeft w.heap.size (textL s.data.toList) w):=by
 have hz:s.data.toList.length=s.size:=(Lib.size_eq s).symm
 have hbl:=bytesL_length s.size
 have k1:=fun W=>rbytes_any s.size W (by omega)
 have hm:s.size≤9223372036854775807:=by omega
 have hlz:(bytesL s.size).length+s.size≤140737488355328:=by omega
 unfold textL
 rw [hz]
 obtain ⟨T,hT⟩:∃ T,bytesL s.size=T:=⟨_,rfl⟩
 simp only [hT] at k1 hlz
 rw [hT]
 have K1:=Lib.hid k1
 clear k1 hz hT hbl
 go_enter Tryz.func150,Tryz.ntmps150
 go_wp2_with fail
 refine (K1.out _).mono ?_
 rintro e w1 ⟨v1,rfl,hown1,hb1⟩
 have hsz:=hb1.size
 have HO:=Lib.hid hown1
 clear hown1
 go_wp2_with (at_builtin;refine wpList_append_text rfl _ _ rfl w.heap.size _ _ rfl HO.out _ rfl hlz hsz ?_)
 intro v3 w3 hown3 hb3
 have HO3:=Lib.hid hown3
 clear hown3
 go_wp2_with fail
 go_ret
 exact ⟨_,rfl,HO3.out,hb1.trans hb3⟩
end Go.Proofs.YtdfibahafilklaaGreatDoor.VP
namespace Go.Proofs.YtdfibahafilklaaGreatDoor.VG
open Go.RowKit MM VM VP
theorem getL_cases (l:List UInt8):(∃ n k,getL l=(n,k,0)∧n<18446744073709551616∧1≤k∧k≤l.length)∨getL l=(0,0,6)∨getL l=(0,0,20):=by
 have h:=getL_bounds l
 rcases h.2.2.1 with h0 | h0
 ·exact .inl ⟨(getL l).1,(getL l).2.1,by rw [← h0],h.1,h.2.2.2 h0,h.2.1⟩
 ·exact .inr h0
theorem restL_ok {l:List UInt8} {n k:Nat} (h:getL l=(n,k,0)):restL l=l.drop k:=by unfold restL;rw [h];rfl
theorem restL_short {l:List UInt8} (h:getL l=(0,0,6)):restL l=[]:=by unfold restL;rw [h];rfl
theorem restL_bad {l:List UInt8} (h:getL l=(0,0,20)):restL l=[]:=by unfold restL;rw [h];rfl
def restT (l:List UInt8) (most:Int):List UInt8:=if (getT l most).2.2=0 then l.drop (getT l most).2.1 else []
theorem getT_ok {l:List UInt8} {n k:Nat} (h:getL l=(n,k,0)) (most:Int) :
  (max 0 most<(n:Int)→(getT l most).1=[]∧(getT l most).2.2=2∧restT l most=[]) ∧
  (¬ max 0 most<(n:Int)→(l.drop k).length<n→(getT l most).1=[]∧(getT l most).2.2=6∧restT l most=[]) ∧
  (¬ max 0 most<(n:Int)→¬ (l.drop k).length<n→(getT l most).1=(l.drop k).take n∧(getT l most).2.2=0∧restT l most=(l.drop k).drop n):=by
 rw [List.length_drop]
 refine ⟨fun h1 => ?_,fun h1 h2 => ?_,fun h1 h2 => ?_⟩
 ·have e:getT l most=([],0,2):=by unfold getT;rw [h];simp [h1]
  unfold restT
  rw [e]
  exact ⟨rfl,rfl,rfl⟩
 ·have e:getT l most=([],0,6):=by
   unfold getT
   rw [h]
   show (if (0:Int)≠0 then _ else if max 0 most<(n:Int) then _ else if l.length - k<n then _ else _)=_
   rw [if_neg (by simp),if_neg h1,if_pos h2]
  unfold restT
  rw [e]
  exact ⟨rfl,rfl,rfl⟩
 ·have e:getT l most=((l.drop k).take n,k+n,0):=by
   unfold getT
   rw [h]
   show (if (0:Int)≠0 then _ else if max 0 most<(n:Int) then _ else if l.length - k<n then _ else _)=_
   rw [if_neg (by simp),if_neg h1,if_neg h2]
  unfold restT
  rw [e,List.drop_drop]
  exact ⟨rfl,rfl,rfl⟩
theorem getT_err {l:List UInt8} {er:Int} (h:getL l=(0,0,er)) (h0:er≠0) (most:Int):(getT l most).1=[]∧(getT l most).2.2=er∧restT l most=[]:=by
 have e:getT l most=([],0,er):=by
  unfold getT
  rw [h]
  show (if er≠0 then _ else _)=_
  rw [if_pos h0]
 unfold restT
 rw [e]
 exact ⟨rfl,rfl,if_neg h0⟩
theorem rgettext_in (B:Nat) (v:Value) (l:List UInt8) (most:Int) (w:World) (h0 : -9223372036854775808≤most) (h1:most≤9223372036854775807) (hr:BIn B w v l) (hB:B≤w.heap.size) :
  Calls Tryz.prog 137 #[v,.int .i64 most] w (GotIn B (.string ⟨(getT l most).1.toArray⟩) (getT l most).2.2 (restT l most) w):=by
 have k1:=rget_in B v l w hr hB
 rcases getL_cases l with ⟨n,k,hg,hb,hk1,hk2⟩ | hg | hg
 ·rw [hg,restL_ok hg] at k1
  have hcase:=getT_ok hg most
  obtain ⟨R,hR⟩:∃ R,l.drop k=R:=⟨_,rfl⟩
  rw [hR] at k1 hcase
  have K1:=Lib.hid k1
  obtain ⟨M,hM⟩:∃ M,max 0 most=M:=⟨_,rfl⟩
  have hM2:max 0 most=M:=by omega
  have hmx:0≤M∧M≤9223372036854775807:=by omega
  rw [hM2] at hcase
  clear k1 hr hg hR hM2 h0 h1
  by_cases hm:M<(n:Int)
  ·obtain ⟨e1,e2,e3⟩:=hcase.1 hm
   rw [e1,e2,e3]
   clear hcase e1 e2 e3
   go_enter Tryz.func137,Tryz.ntmps137
   go_wp2_with fail
   refine K1.out.mono ?_
   rintro e w1 ⟨v1,rfl,hrow,hb1⟩
   clear hrow
   go_wp2_with fail
   go_ret3
   exact ⟨_,rfl,BIn.nil_ _ w1,hb1⟩
  ·by_cases hs:R.length<n
   ·obtain ⟨e1,e2,e3⟩:=hcase.2.1 hm hs
    rw [e1,e2,e3]
    clear hcase e1 e2 e3
    go_enter Tryz.func137,Tryz.ntmps137
    go_wp2_with fail
    refine K1.out.mono ?_
    rintro e w1 ⟨v1,rfl,hrow,hb1⟩
    obtain ⟨p,cap,rfl,hlc,hcm⟩:=hrow.shape
    unfold maxLen at hcm
    clear hrow
    go_wp2_with fail
    go_ret3
    exact ⟨_,rfl,BIn.nil_ _ w1,hb1⟩
   ·obtain ⟨e1,e2,e3⟩:=hcase.2.2 hm hs
    rw [e1,e2,e3]
    obtain ⟨T,hT⟩:∃ T:ByteArray,(⟨(R.take n).toArray⟩:ByteArray)=T:=⟨_,rfl⟩
    rw [hT]
    have HT:=Lib.hid hT
    clear hcase e1 e2 e3 hT
    go_enter Tryz.func137,Tryz.ntmps137
    go_wp2_with fail
    refine K1.out.mono ?_
    rintro e w1 ⟨v1,rfl,hrow,hb1⟩
    obtain ⟨p,cap,rfl,hlc,hcm⟩:=hrow.shape
    unfold maxLen at hcm
    have hconv:=fun nq=>((hrow.take n (by omega)).drewN nq).conv
    simp only [HT.out] at hconv
    have HR:=Lib.hid (hrow.drop3 n (by omega))
    have hi1:(n:Int)≤(R.length:Int):=by omega
    have hi2:(R.length:Int)≤(cap:Int):=by omega
    clear hrow
    go_wp2_with fail
    go_quiet (fail)
    clear hconv
    go_wp2_with fail
    ·go_ret3
     exact ⟨_,rfl,(HR.out.1 (by assumption)).drewN nq,MM.below_drewN hb1 nq⟩
    ·go_ret3
     exact ⟨_,rfl,(HR.out.2 (by assumption)).drewN nq,MM.below_drewN hb1 nq⟩
 ·rw [hg,restL_short hg] at k1
  obtain ⟨e1,e2,e3⟩:=getT_err hg (by decide) most
  rw [e1,e2,e3]
  have K1:=Lib.hid k1
  clear k1 hr hg e1 e2 e3
  go_enter Tryz.func137,Tryz.ntmps137
  go_wp2_with fail
  refine K1.out.mono ?_
  rintro e w1 ⟨v1,rfl,hrow,hb1⟩
  clear hrow
  go_wp2_with fail
  go_ret3
  exact ⟨_,rfl,BIn.nil_ _ w1,hb1⟩
 ·rw [hg,restL_bad hg] at k1
  obtain ⟨e1,e2,e3⟩:=getT_err hg (by decide) most
  rw [e1,e2,e3]
  have K1:=Lib.hid k1
  clear k1 hr hg e1 e2 e3
  go_enter Tryz.func137,Tryz.ntmps137
  go_wp2_with fail
  refine K1.out.mono ?_
  rintro e w1 ⟨v1,rfl,hrow,hb1⟩
  clear hrow
  go_wp2_with fail
  go_ret3
  exact ⟨_,rfl,BIn.nil_ _ w1,hb1⟩
end Go.Proofs.YtdfibahafilklaaGreatDoor.VG
