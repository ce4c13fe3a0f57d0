import Derived.Test.YtdfibahafilklaaGreatDoorZC31
set_option maxRecDepth 100000
set_option maxHeartbeats 8000000
set_option linter.unusedVariables false
set_option linter.unusedSimpArgs false
namespace Go.Proofs.YtdfibahafilklaaGreatDoor.VP
open Go.RowKit MM VM
end Go.Proofs.YtdfibahafilklaaGreatDoor.VP
namespace Go.Proofs.YtdfibahafilklaaGreatDoor.VG
open Go.RowKit MM VM VP
theorem getL_cases (l:List UInt8):(∃ n k,getL l=(n,k,0)∧n<18446744073709551616∧1≤k∧k≤l.length)∨getL l=(0,0,6)∨getL l=(0,0,20):=by
 have h:=getL_bounds l
 rcases h.2.2.1 with h0 | h0
 ·exact .inl ⟨(getL l).1,(getL l).2.1,by rw [← h0],h.1,h.2.2.2 h0,h.2.1⟩
 ·exact .inr h0
theorem restL_ok {l:List UInt8} {n k:Nat} (h:getL l=(n,k,0)):restL l=l.drop k:=by unfold restL;rw [h];rfl
theorem restL_short {l:List UInt8} (h:getL l=(0,0,6)):restL l=[]:=by unfold restL;rw [h];rfl
theorem restL_bad {l:List UInt8} (h:getL l=(0,0,20)):restL l=[]:=by unfold restL;rw [h];rfl
def restT (l:List UInt8) (most:Int):List UInt8:=if (getT l most).2.2=0 then l.drop (getT l most).2.1 else []
theorem getT_ok {l:List UInt8} {n k:Nat} (h:getL l=(n,k,0)) (most:Int) :
  (max 0 most<(n:Int)→(getT l most).1=[]∧(getT l most).2.2=2∧restT l most=[]) ∧
  (¬ max 0 most<(n:Int)→(l.drop k).length<n→(getT l most).1=[]∧(getT l most).2.2=6∧restT l most=[]) ∧
  (¬ max 0 most<(n:Int)→¬ (l.drop k).length<n→(getT l most).1=(l.drop k).take n∧(getT l most).2.2=0∧restT l most=(l.drop k).drop n):=by
 rw [List.length_drop]
 refine ⟨fun h1 => ?_,fun h1 h2 => ?_,fun h1 h2 => ?_⟩
 ·have e:getT l most=([],0,2):=by unfold getT;rw [h];simp [h1]
  unfold restT
  rw [e]
  exact ⟨rfl,rfl,rfl⟩
 ·have e:getT l most=([],0,6):=by
   unfold getT
   rw [h]
   show (if (0:Int)≠0 then _ else if max 0 most<(n:Int) then _ else if l.length - k<n then _ else _)=_
   rw [if_neg (by simp),if_neg h1,if_pos h2]
  unfold restT
  rw [e]
  exact ⟨rfl,rfl,rfl⟩
 ·have e:getT l most=((l.drop k).take n,k+n,0):=by
   unfold getT
   rw [h]
   show (if (0:Int)≠0 then _ else if max 0 most<(n:Int) then _ else if l.length - k<n then _ else _)=_
   rw [if_neg (by simp),if_neg h1,if_neg h2]
  unfold restT
  rw [e,List.drop_drop]
  exact ⟨rfl,rfl,rfl⟩
theorem getT_err {l:List UInt8} {er:Int} (h:getL l=(0,0,er)) (h0:er≠0) (most:Int):(getT l most).1=[]∧(getT l most).2.2=er∧restT l most=[]:=by
 have e:getT l most=([],0,er):=by
  unfold getT
  rw [h]
  show (if er≠0 then _ else _)=_
  rw [if_pos h0]
 unfold restT
 rw [e]
 exact ⟨rfl,rfl,if_neg h0⟩
end Go.Proofs.YtdfibahafilklaaGreatDoor.VG
namespace Go.Proofs.YtdfibahafilklaaGreatDoor.VP
open Go.RowKit MM VM
theorem puttext_any (v:Value) (l:List UInt8) (s:ByteArray) (w:World) (hr:BRow w v l) (hlen:l.length+s.size≤17592186044416) :
  Calls Tryz.prog 146 #[v,.string s] w (PutLeft w.heap.size (l++textL s.data.toList) w):=by
 have hz:s.data.toList.length=s.size:=(Lib.size_eq s).symm
 have hbl:=bytesL_length s.size
 have k1:=fun W=>size_any s.size W (by omega)
 have k2:=fun W (h:BRow W v l)=>room_any v l ((bytesL s.size).length+s.size:Int) ((bytesL s.size).length+s.size) W (by omega) h (by omega)
 have k3:=fun B u W (h:OwnB B W u l) hB=>app_any B u l s.size W (by omega) h (by omega) hB
 have hm:s.size≤9223372036854775807:=by omega
 have hlz:(l++bytesL s.size).length+s.size≤140737488355328:=by rw [List.length_append];omega
 unfold textL
 rw [hz,← List.append_assoc]
 obtain ⟨L,hL⟩:∃ L,(bytesL s.size).length=L:=⟨_,rfl⟩
 simp only [hL] at k1 k2
 have hL10:L≤10:=by omega
 obtain ⟨T,hT⟩:∃ T,l++bytesL s.size=T:=⟨_,rfl⟩
 simp only [hT] at k3 hlz
 rw [hT]
 have K1:=Lib.hid k1
 have K2:=Lib.hid k2
 have K3:=Lib.hid k3
 have HR:=Lib.hid hr
 clear k1 k2 k3 hr hL hbl hz hT
 go_enter Tryz.func146,Tryz.ntmps146
 go_wp2_with fail
 refine (K1.out _).mono ?_
 rintro e w1 ⟨rfl,rfl⟩
 go_wp2_with fail
 refine (K2.out _ HR.out).mono ?_
 rintro e w1 ⟨v1,rfl,hown1,hb1⟩
 have hsz:=hb1.size
 have HO:=Lib.hid hown1
 clear hown1
 go_wp2_with fail
 refine (K3.out _ _ _ HO.out hsz).mono ?_
 rintro e w2 ⟨v2,rfl,hown2,hb2⟩
 have hb:=hb1.trans hb2
 have hsz2:=hb.size
 have HO2:=Lib.hid hown2
 clear hown2
 go_wp2_with (at_builtin;refine wpList_append_text rfl _ _ rfl w.heap.size _ _ rfl HO2.out _ rfl hlz hsz2 ?_)
 intro v3 w3 hown3 hb3
 have HO3:=Lib.hid hown3
 clear hown3
 go_wp2_with fail
 go_ret
 exact ⟨_,rfl,HO3.out,hb.trans hb3⟩
end Go.Proofs.YtdfibahafilklaaGreatDoor.VP
namespace Go.Proofs.YtdfibahafilklaaGreatDoor.FP
open Go.RowKit MM VM CM FM VP CR
theorem all_any (v vs:Value) (l:List UInt8) (ls:List (List UInt8)) (w:World) (hr:BRow w v l) (hs:PRow w vs ls) (hall:∀ p∈ls,p.length≤16777216) (hlen:l.length+(framesL ls).length≤35184372088832) :
  Calls Tryz.prog 103 #[v,vs] w (PutsLeft w.heap.size (l++framesL ls) w):=by
 obtain ⟨p,cap,rfl,hlc,hcm⟩:=hr.shape
 obtain ⟨q,capq,rfl,hqc,hqm⟩:=hs.shape
 unfold maxLen at hcm hqm
 have HR:=Lib.hid hr
 have HS:=Lib.hid hs
 have HA:=Lib.hid hall
 obtain ⟨X,hX⟩:∃ X,l++framesL ls=X:=⟨_,rfl⟩
 rw [hX]
 have HX:=Lib.hid hX
 clear hr hs hall hX
 go_enter Tryz.func103,Tryz.ntmps103
 go_wp2_with fail
 go_loop [6,16] (fun s i=>∃ k z:Nat,k≤ls.length∧i=.int .i64 k∧s=.int .i64 z∧z=l.length+(framesL (ls.take k)).length) (fun _ i=>ls.length - (intOf i).toNat)
 case atStart=>exact ⟨0,l.length,by omega,rfl,rfl,by simp [framesL]⟩
 case round =>
  obtain ⟨k,z,hk,rfl,rfl,hz⟩:=hrel
  have htk:=framesL_take ls k
  by_cases hlt:k<ls.length
  ·obtain ⟨b,off,x,rfl,hcell,hx⟩:=HS.out.at_ hlt
   have hpl:=HA.out ls[k] (List.getElem_mem hlt)
   have hsn:=framesL_snoc ls hlt
   have htk1:=framesL_take ls (k+1)
   rw [hsn,List.length_append] at htk1
   have hsz:=sizeL_frame hpl
   have hK:=fun W=>size_fr (ls[k].length:Int) W (by omega) (by omega)
   rw [hsz] at hK
   have hzf:z+(frameL ls[k]).length≤35184372088832:=by omega
   have hz2:z+(frameL ls[k]).length=l.length+(framesL (ls.take (k+1))).length:=by rw [hsn,List.length_append];omega
   generalize ls[k]=y at *
   obtain ⟨p2,cap2,rfl,hlc2,hcm2⟩:=hx.shape
   have hf14:=frameL_bounds y
   generalize (frameL y).length=F at *
   unfold maxLen at hcm2
   have HK:=Lib.hid hK
   have HZ:=Lib.hid hz2
   clear hK hx hsn hz2 hz htk htk1 hsz
   go_wp2_with fail
   refine (HK.out _).mono ?_
   rintro e w1 ⟨rfl,rfl⟩
   go_wp2_with fail
   go_round
   case rel=>exact ⟨k+1,z+F,by omega,by go_num,by go_num,HZ.out⟩
   case measure=>simp [intOf];omega
  ·obtain rfl:k=ls.length:=by omega
   rw [List.take_length] at hz
   clear htk hlt hk
   go_wp2_with (at_make;refine wpList_make_bytes rfl _ rfl w.heap.size _ z rfl rfl (by omega) (Nat.le_refl _) ?_)
   intro v1 w1 hown1 hb1
   have hsz1:=hb1.size
   have HO1:=Lib.hid hown1
   have HR1:=Lib.hid (HR.out.below hb1)
   have hl0:([]:List UInt8).length+l.length≤140737488355328:=by rw [List.length_nil];omega
   clear hown1
   go_wp2_with (at_builtin;refine wpList_append_bytes rfl _ _ rfl w.heap.size _ [] rfl HO1.out _ l rfl HR1.out hl0 hsz1 ?_)
   intro v2 w2 hown2 hb2
   have hb3:=hb1.trans hb2
   have HO2:Hid (OwnB w.heap.size w2 v2 (l++framesL (ls.take 0))):=Lib.hid (by rw [List.take_zero,framesL_nil,List.append_nil];exact hown2)
   clear hown2 hb1 hb2
   go_wp2_with fail
   go_loopw [9,35] (fun u i wr=>∃ k:Nat,k≤ls.length∧i=.int .i64 k∧Hid (OwnB w.heap.size wr u (l++framesL (ls.take k)))∧Hid (Below w.heap.size w wr)) (fun _ i _=>ls.length - (intOf i).toNat)
   case atStart=>exact ⟨0,by omega,rfl,HO2,Lib.hid hb3⟩
   case round =>
    obtain ⟨k,hk,rfl,HO,HB⟩:=hrel
    clear HO2 HO1 HR1
    have htk:=framesL_take ls k
    by_cases hlt:k<ls.length
    ·obtain ⟨b,off,x,rfl,hcell,hx⟩:=HS.out.at_ hlt
     have hcell2:=(HB.out.cell (p:=⟨b,off+k,none⟩) (cell_lt hcell)).trans hcell
     have hpl:=HA.out ls[k] (List.getElem_mem hlt)
     have hsn:=framesL_snoc ls hlt
     have htk1:=framesL_take ls (k+1)
     rw [hsn,List.length_append] at htk1
     have hxi:BIn w.heap.size wr x ls[k]:=BIn.below hx HB.out
     have hK:=appf_any w.heap.size _ x (l++framesL (ls.take k)) ls[k] wr HO.out hxi hpl (by rw [List.length_append];omega) HB.out.size
     rw [List.append_assoc,← hsn] at hK
     obtain ⟨p2,cap2,rfl,hlc2,hcm2⟩:=hx.shape
     have HK:=Lib.hid hK
     clear hK hx hsn htk1 htk hxi hcell
     go_wp2_with fail
     refine HK.out.mono ?_
     rintro e w4 ⟨v4,rfl,hown4,hb4⟩
     have HO4:=Lib.hid hown4
     have HB4:=Lib.hid (HB.out.trans hb4)
     clear hown4 hb4
     go_wp2_with fail
     go_roundw
     case rel=>exact ⟨k+1,by omega,by go_num,HO4,HB4⟩
     case measure=>simp [intOf];omega
    ·obtain rfl:k=ls.length:=by omega
     have hown:=HO.out
     rw [List.take_length,HX.out] at hown
     have HF:=Lib.hid hown
     clear hown HO htk
     go_wp2_with fail
     go_ret2
     exact ⟨_,rfl,HF.out,HB.out⟩
theorem join_fr (v:Value) (ls:List (List UInt8)) (w:World) (hs:PRow w v ls) (hall:∀ p∈ls,p.length≤16777216) (hlen:(framesL ls).length≤35184372088832) :
  Calls Tryz.prog 54 #[v] w (PutsLeft w.heap.size (framesL ls) w):=by
 have h:=all_any (.slice none 0 0) v [] ls w (BRow.nil_ w) hs hall (by rw [List.length_nil];omega)
 rw [List.nil_append] at h
 generalize framesL ls=X at *
 have HH:=Lib.hid h
 clear h hs
 go_enter Tryz.func54,Tryz.ntmps54
 go_wp2_with fail
 refine HH.out.mono ?_
 rintro e w1 ⟨v1,rfl,hown,hb⟩
 have HO:=Lib.hid hown
 clear hown
 go_wp2_with fail
 go_ret2
 exact ⟨_,rfl,HO.out,hb⟩
end Go.Proofs.YtdfibahafilklaaGreatDoor.FP
