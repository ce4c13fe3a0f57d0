import Derived.Test.YtdfbkhpkffpckaaZB36
set_option maxRecDepth 100000
set_option maxHeartbeats 8000000
set_option linter.unusedVariables false
set_option linter.unusedSimpArgs false
namespace Go.Proofs.Ytdfbkhpkffpckaa.TK
open Go.RowKit MM
open UM (lowerZ wordZ encL runesL)
def IIn (B:Nat) (w:World) (v:Value) (zs:List Int):Prop:=RowIn B w v (zs.map (Value.int .i64))
theorem IIn.below {B:Nat} {w w':World} {v:Value} {zs:List Int} (h:IIn B w v zs) (hb:Below B w w'):IIn B w' v zs:=RowIn.below h hb
theorem IIn.row {B:Nat} {w:World} {v:Value} {zs:List Int} (h:IIn B w v zs) (hB:B≤w.heap.size):IRow w v zs:=RowIn.mono h hB
theorem IIn.shape {B:Nat} {w:World} {v:Value} {zs:List Int} (h:IIn B w v zs):∃ p cap,v=.slice p zs.length cap∧zs.length≤cap∧cap≤maxLen:=by
 obtain ⟨p,cap,hv,h1,h2,_,_⟩:=h
 rw [List.length_map] at hv h1
 exact ⟨p,cap,hv,h1,h2⟩
theorem IIn.at_ {B:Nat} {w:World} {p:Option Addr} {n cap:Nat} {zs:List Int} (h:IIn B w (.slice p n cap) zs) {k:Nat} (hk:k<zs.length) :
  ∃ b off,p=some ⟨b,off,none⟩∧b<B∧w.cell? ⟨b,off+k,none⟩=some (.int .i64 (zs.getD k 0)):=by
 obtain ⟨p',cap',hv,_,_,_,h⟩:=h
 simp only [Value.slice.injEq] at hv
 obtain ⟨rfl,_,_⟩:=hv
 rcases h with h | ⟨b,off,hp,hlt,hc⟩
 ·have:zs=[]:=List.map_eq_nil_iff.1 h
  subst this
  simp at hk
 ·exact ⟨b,off,hp,hlt,hc k _ (by simp [List.getD,hk])⟩
theorem IIn.take {B:Nat} {w:World} {p:Option Addr} {n cap:Nat} {zs:List Int} (h:IIn B w (.slice p n cap) zs) (k:Nat) (hk:k≤n):IIn B w (.slice p k cap) (zs.take k):=by
 have:=RowIn.take h k hk
 rw [← List.map_take] at this
 exact this
theorem IIn.drop3 {B:Nat} {w:World} {b off n cap:Nat} {zs:List Int} (h:IIn B w (.slice (some ⟨b,off,none⟩) n cap) zs) (k:Nat) (hk:k≤n) :
  IIn B w (.slice (if cap=k then some ⟨b,off,none⟩ else some ⟨b,off+k,none⟩) (n - k) (cap - k)) (zs.drop k):=by
 have h1:=RowIn.drop h k hk
 rw [← List.map_drop,Option.map_some,add_at] at h1
 exact h1
def WithLeft (B:Nat) (ss:List (List UInt8)) (w:World) (e:Ending) (w':World):Prop:=∃ v,e=.returned v∧OwnT B w' v ss∧Below B w w'
theorem with_any (B:Nat) (u:Value) (ss:List (List UInt8)) (v:Value) (zs:List Int) (w:World) (hB:B≤w.heap.size) (hown:OwnT B w u ss) (hr:IRow w v zs) (hl:zs.length≤1000000) (hs:ss.length≤1000000) :
  Calls Try.prog 121 #[u,v] w (WithLeft B (ss++(one zs).map cutW) w):=by
 obtain ⟨p,cap,rfl,hlc,hcm⟩:=hr.shape
 by_cases hz:zs=[]
 ·subst hz
  rw [one_nil,List.map_nil,List.append_nil]
  have HO:=Lib.hid hown
  clear hown hr
  go_enter Try.func121,Try.ntmps121
  go_wp2_with fail
  go_ret
  exact ⟨_,rfl,HO.out,Below.refl _ _⟩
 ·have hw:=Lib.hid (wordOf_any _ _ _ hr hl)
  have hlp:=List.length_pos_iff.2 hz
  have t1:((zs.length:Int) == 0)=false:=by simp;omega
  rw [one_ne hz,List.map_singleton]
  have HO:=Lib.hid hown
  clear hown hr hz
  go_enter Try.func121,Try.ntmps121
  go_wp2_with fail
  refine hw.out.mono ?_
  rintro e w2 ⟨rfl,hb2⟩
  have HO2:=Lib.hid (HO.out.keep hb2)
  have HB2:=Lib.hid (hb2.mono hB)
  have hsz2:=HB2.out.size
  clear hb2 hw
  go_wp2_with (at_builtin;refine wpList_append_str rfl _ _ rfl B u ss w2 (cutW zs) rfl rfl HO2.out rfl (by omega) (Nat.le_trans hB hsz2) ?_)
  intro v3 w3 hown3 hb3
  have HO3:=Lib.hid hown3
  have HB3:=Lib.hid (HB2.out.trans hb3)
  clear hown3 hb3
  go_wp2_with fail
  go_ret
  exact ⟨_,rfl,HO3.out,HB3.out⟩
def WordsLeft (ss:List (List UInt8)) (w:World) (e:Ending) (w':World):Prop:=∃ v,e=.returned v∧OwnT w.heap.size w' v ss∧Below w.heap.size w w'
def Far (all rest:List Int) (ss:List (List UInt8)):Prop:=ss++wordsR rest=wordsR all∧ss.length+rest.length≤all.length
theorem far_stop {all rest:List Int} {ss:List (List UInt8)} {k:Nat} (h:Far all rest ss) (hk:k<rest.length) (hw:∀ r∈rest.take k,wordZ r=true) (hn:wordZ (rest.getD k 0)=false):Far all (rest.drop (k+1)) (ss++(one (rest.take k)).map cutW):=by
 have e:rest=rest.take k++rest.getD k 0::rest.drop (k+1):=by
  have h1:=List.take_append_drop k rest
  rw [List.drop_eq_getElem_cons hk] at h1
  rw [← h1]
  simp [List.getD,hk]
 have h1:wordsR rest=(one (rest.take k)).map cutW++wordsR (rest.drop (k+1)):=by
  conv=>lhs;rw [e]
  unfold wordsR
  rw [rowsL_part hw hn,List.map_append]
 refine ⟨by rw [List.append_assoc,← h1];exact h.1,?_⟩
 have h2:=h.2
 have h3:(one (rest.take k)).length≤1:=by unfold one;split<;>simp
 rw [List.length_append,List.length_map,List.length_drop]
 omega
theorem far_end {all rest:List Int} {ss:List (List UInt8)} (h:Far all rest ss) (hw:∀ r∈rest,wordZ r=true):ss++(one rest).map cutW=wordsR all:=by
 rw [← h.1]
 congr 1
 unfold wordsR
 rw [rowsL_all hw]
theorem take_more {rest:List Int} {k:Nat} (hk:k<rest.length) (hw:∀ r∈rest.take k,wordZ r=true) (hr:wordZ (rest.getD k 0)=true):∀ r∈rest.take (k+1),wordZ r=true:=by
 intro r h
 rw [List.take_succ_eq_append_getElem hk,List.mem_append] at h
 rcases h with h | h
 ·exact hw r h
 ·simp at h
  subst h
  simpa [List.getD,hk] using hr
theorem words_any (s:ByteArray) (w:World) (hs:s.size≤1000000):Calls Try.prog 103 #[.string s] w (WordsLeft (wordsB s.data.toList) w):=by
 have hrun:=UM.runes_any s w hs
 have hlen:=UM.runesL_length s.data.toList
 rw [← Lib.size_eq] at hlen
 unfold UM.RunesLeft at hrun
 unfold wordsB
 obtain ⟨zs,hz⟩:∃ zs,runesL s.data.toList=zs:=⟨_,rfl⟩
 rw [hz] at hrun hlen ⊢
 have HR:=Lib.hid hrun
 have hzl:zs.length≤1000000:=by omega
 clear hrun hz hlen
 go_enter Try.func103,Try.ntmps103
 go_wp2_with fail
 go_step3
 go_wp2_with fail
 refine HR.out.mono ?_
 rintro e w1 ⟨v,rfl,hown,hb1⟩
 have hir:IIn w1.heap.size w1 v zs:=OwnI.irow hown
 have HI0:=Lib.hid hir
 have HB1:=Lib.hid hb1
 have hsz1:=hb1.size
 have HO0:Hid (OwnT w1.heap.size w1 (.slice none 0 0) []):=Lib.hid (OwnT.nil_ _ _)
 have HF0:Hid (Far zs zs []):=Lib.hid ⟨rfl,by simp⟩
 have HB0:Hid (Below w1.heap.size w1 w1):=Lib.hid (Below.refl _ _)
 clear hir hown hb1 HR
 go_wp2_with fail
 go_step3
 go_wp2_with fail
 go_loopw [3,4] (fun u t wr=>∃ (rest:List Int) (ss:List (List UInt8)),Hid (Far zs rest ss)∧Hid (IIn w1.heap.size wr t rest)∧Hid (OwnT w1.heap.size wr u ss)∧Hid (Below w1.heap.size w1 wr)) (fun _ t _=>lenV t)
 case atStart=>exact ⟨zs,[],HF0,HI0,HO0,HB0⟩
 case round =>
  obtain ⟨rest,ss,HF,HI,HO,HB⟩:=hrel
  clear HF0 HI0 HO0 HB0
  obtain ⟨p,cap,rfl,hlc,hcm⟩:=HI.out.shape
  unfold maxLen at hcm
  have hf2:=HF.out.2
  by_cases hre:rest=[]
  ·subst hre
   have hf:=HF.out.1
   have e0:wordsR []=[]:=rfl
   rw [e0,List.append_nil] at hf
   subst hf
   have HOw:=Lib.hid (HO.out.weaken hsz1)
   have HBw:=Lib.hid (HB1.out.trans (HB.out.mono hsz1))
   clear HO HI HF hf2
   go_wp2_with fail
   go_ret
   exact ⟨_,rfl,HOw.out,HBw.out⟩
  ·have hrl:=List.length_pos_iff.2 hre
   have t1:decide ((rest.length:Int)>0)=true:=by simp;omega
   have HW0:Hid (∀ r∈rest.take 0,wordZ r=true):=Lib.hid (by simp)
   clear hre
   go_wp2_with fail
   go_loopw [3,4,14] (fun u t i wr=>∃ k:Nat,k≤rest.length∧i=.int .i64 k∧t=.slice p rest.length cap∧Hid (∀ r∈rest.take k,wordZ r=true)∧Hid (IIn w1.heap.size wr (.slice p rest.length cap) rest)∧Hid (OwnT w1.heap.size wr u ss)∧Hid (Below w1.heap.size w1 wr)) (fun _ _ i _=>rest.length - (intOf i).toNat)
   case atStart=>exact ⟨0,by omega,rfl,rfl,HW0,HI,HO,HB⟩
   case round =>
    obtain ⟨k,hk,rfl,rfl,HW,HI,HO,HB⟩:=hrel
    clear HW0
    have hsz:=HB.out.size
    by_cases hlt:k<rest.length
    ·have t2:decide ((k:Int)<(rest.length:Int))=true:=by simp;omega
     obtain ⟨b,off,rfl,hbl,hcell⟩:=HI.out.at_ hlt
     have hword:=fun W=>UM.word_any (rest.getD k 0) W
     obtain ⟨r,hrr⟩:∃ r,rest.getD k 0=r:=⟨_,rfl⟩
     rw [hrr] at hcell
     simp only [hrr] at hword
     cases hz:wordZ r with
     | true =>
       simp only [hz] at hword
       have HWn:=Lib.hid (take_more hlt HW.out (by rw [hrr];exact hz))
       have HWd:=Lib.hid hword
       clear hword hz hrr HW
       go_wp2_with fail
       refine (HWd.out _).mono ?_
       rintro e w2 ⟨rfl,hb2⟩
       have HB2:=Lib.hid (HB.out.trans (hb2.mono hsz))
       have HO2:=Lib.hid (HO.out.keep hb2)
       have HI2:=Lib.hid (HI.out.below (hb2.mono hsz))
       clear hb2 HWd hcell
       go_wp2_with fail
       go_roundw
       case rel=>exact ⟨k+1,by omega,by go_num,rfl,HWn,HI2,HO2,HB2⟩
       case measure=>simp [intOf];omega
     | false =>
       simp only [hz] at hword
       have HFn:=Lib.hid (far_stop HF.out hlt HW.out (by rw [hrr];exact hz))
       have HWd:=Lib.hid hword
       have i1:(k:Int)≤(cap:Int):=by omega
       have i2:(k:Int)+1≤(rest.length:Int):=by omega
       have i3:(rest.length:Int)≤(cap:Int):=by omega
       clear hword hz hrr HW
       go_wp2_with fail
       refine (HWd.out _).mono ?_
       rintro e w2 ⟨rfl,hb2⟩
       have HB2:=Lib.hid (HB.out.trans (hb2.mono hsz))
       have HO2:=Lib.hid (HO.out.keep hb2)
       have HI2:=Lib.hid (HI.out.below (hb2.mono hsz))
       have hsz2:=HB2.out.size
       clear hb2 HWd hcell
       have hwi:=with_any w1.heap.size _ ss _ _ w2 hsz2 HO2.out ((HI2.out.take k (by omega)).row hsz2) (by rw [List.length_take];omega) (by omega)
       have HWi:=Lib.hid hwi
       clear hwi
       go_wp2_with fail
       refine HWi.out.mono ?_
       rintro e w3 ⟨v3,rfl,hown3,hb3⟩
       have HO3:=Lib.hid hown3
       have HB3:=Lib.hid (HB2.out.trans hb3)
       have HI3:=Lib.hid ((HI2.out.below hb3).drop3 (k+1) (by omega))
       clear hown3 hb3 HWi
       go_wp2_with fail
       go_roundw
       case rel=>exact ⟨_,_,HFn,HI3,HO3,HB3⟩
       case measure=>simp [lenV];omega
    ·obtain rfl:k=rest.length:=by omega
     have t2:decide ((rest.length:Int)<(rest.length:Int))=false:=by simp
     have hwa:=HW.out
     rw [List.take_length] at hwa
     have hfe:=far_end HF.out hwa
     have hwi:=with_any w1.heap.size _ ss _ _ wr hsz HO.out (HI.out.row hsz) (by omega) (by omega)
     rw [hfe] at hwi
     have HWi:=Lib.hid hwi
     clear hwi hwa hfe
     go_wp2_with fail
     refine HWi.out.mono ?_
     rintro e w3 ⟨v3,rfl,hown3,hb3⟩
     have HO3:=Lib.hid (hown3.weaken hsz1)
     have HB3:=Lib.hid (HB1.out.trans ((HB.out.trans hb3).mono hsz1))
     clear hown3 hb3 HWi
     go_wp2_with fail
     go_ret
     exact ⟨_,rfl,HO3.out,HB3.out⟩
end Go.Proofs.Ytdfbkhpkffpckaa.TK
