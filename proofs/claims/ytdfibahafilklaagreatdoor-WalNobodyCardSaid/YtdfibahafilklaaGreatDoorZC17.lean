import Derived.Test.YtdfibahafilklaaGreatDoorZC15
import Derived.Test.YtdfibahafilklaaGreatDoorZC16
import Derived.Lib.ConvBytes
set_option maxRecDepth 100000
set_option maxHeartbeats 8000000
set_option linter.unusedVariables false
set_option linter.unusedSimpArgs false
namespace Go.Proofs.YtdfibahafilklaaGreatDoor.DK
open Go.RowKit MM
theorem odd_any (c:Nat) (w:World) (hc:c<256):Calls Tryz.prog 152 #[.int .u8 (c:Int)] w fun e w'=>e=.returned (.bool (!okCode c))∧w=w':=by
 rcases (by omega:c<45∨c=45∨c=46∨c=47∨(48≤c∧c≤57)∨(58≤c∧c≤96)∨(97≤c∧c≤122)∨122<c) with h | h | h | h | h | h | h | h
 all_goals (
  first | (have a1:decide ((c:Int)≥97)=true:=by (rw [decide_eq_true_eq];omega)) | (have a1:decide ((c:Int)≥97)=false:=by (rw [decide_eq_false_iff_not];omega))
  first | (have a2:decide ((c:Int)≤122)=true:=by (rw [decide_eq_true_eq];omega)) | (have a2:decide ((c:Int)≤122)=false:=by (rw [decide_eq_false_iff_not];omega))
  first | (have a3:decide ((c:Int)≥48)=true:=by (rw [decide_eq_true_eq];omega)) | (have a3:decide ((c:Int)≥48)=false:=by (rw [decide_eq_false_iff_not];omega))
  first | (have a4:decide ((c:Int)≤57)=true:=by (rw [decide_eq_true_eq];omega)) | (have a4:decide ((c:Int)≤57)=false:=by (rw [decide_eq_false_iff_not];omega))
  first | (have a5:((c:Int) == 45)=true:=by (rw [beq_iff_eq];omega)) | (have a5:((c:Int) == 45)=false:=by (rw [beq_eq_false_iff_ne];omega))
  first | (have a6:((c:Int) == 46)=true:=by (rw [beq_iff_eq];omega)) | (have a6:((c:Int) == 46)=false:=by (rw [beq_eq_false_iff_ne];omega))
  have b5:((c:Int) != 45) = !((c:Int) == 45):=rfl
  have b6:((c:Int) != 46) = !((c:Int) == 46):=rfl
  rw [a5] at b5
  rw [a6] at b6
  simp only [Bool.not_true,Bool.not_false] at b5 b6
  have hok:=okCode_int c
  rw [a1,a2,a3,a4,a5,a6] at hok
  have HOK:=Lib.hid hok
  clear h hok
  go_enter Tryz.func152,Tryz.ntmps152
  go_wp2_with fail
  go_ret
  rw [HOK.out]
  exact ⟨rfl,rfl⟩)
theorem conv_back (w:World) (s:ByteArray) (l:List UInt8) (hl:s.data.toList=l) (h:l.length≤1000000000000) :
  ∃ v W,(convert 9 31 (.string s)).run Tryz.prog w=.ok v W∧BIn W.heap.size W v l∧Below w.heap.size w W:=by
 have hsz:s.size=l.length:=by rw [Lib.size_eq,hl]
 have hge:=grownCap_ge w s.size 0 5
 have hle:=grownCap_le_maxLen w s.size 0 5 (by unfold maxLen;omega)
 refine ⟨_,_,Lib.run_convert_string_bytes w 9 31 5 s Tryz.underlying9 Tryz.underlying31 Tryz.underlying5,?_,⟨rfl,rfl,rfl,by rw [Lib.bytesWorld_size];omega,fun k hk=>Lib.bytesWorld_at_old w 5 s k hk⟩⟩
 refine ⟨some ⟨w.heap.size,0,none⟩,_,by rw [byteCells_len,← hsz],by rw [byteCells_len,← hsz];exact hge,hle,fun h=>(Option.some_ne_none _ h).elim,.inr ⟨w.heap.size,0,rfl,by rw [Lib.bytesWorld_size];omega,fun i u hi => ?_⟩⟩
 have hlt:i<l.length:=by have:=(List.getElem?_eq_some_iff.1 hi).1;rwa [byteCells_len] at this
 rw [byteCells_get l i hlt] at hi
 rw [Nat.zero_add,Lib.bytesWorld_cell w 5 s i (by omega),← hi,hl]
 simp [hlt]
def IdxLeft (b:Bool) (w:World) (e:Ending) (w':World):Prop:=∃ r:Int,e=.returned (.int .i64 r)∧decide (r≥0)=b ∧ -1≤r∧r≤1000000000000∧Below w.heap.size w w'
theorem drop_odd {l:List UInt8} {i:Nat} {c:UInt8} (hi:l[i]? = some c):(l.drop i).any (fun c => !charOk c)=(!okCode c.toNat||(l.drop (i+1)).any (fun c => !charOk c)):=by
 obtain ⟨hlt,he⟩:=List.getElem?_eq_some_iff.1 hi
 rw [List.drop_eq_getElem_cons hlt,List.any_cons,he,charOk_code]
theorem idxb_any (B:Nat) (v:Value) (l:List UInt8) (w:World) (hr:BIn B w v l) (hB:B≤w.heap.size) (hl:l.length≤1000000000000):Calls Tryz.prog 177 #[v,.func (.func 152) #[] #[]] w (IdxLeft (l.any (fun c => !charOk c)) w):=by
 obtain ⟨p,cap,rfl,hlc,hcm⟩:=hr.shape
 obtain ⟨RES,hRES⟩:∃ RES,l.any (fun c => !charOk c)=RES:=⟨_,rfl⟩
 rw [hRES]
 have H0:=Lib.hid (show (l.drop 0).any (fun c => !charOk c)=RES from hRES)
 have HR:=Lib.hid hr
 clear hr hRES
 go_enter Tryz.func177,Tryz.ntmps177
 go_wp2_with fail
 go_loopw [8] (fun iv wr=>∃ i:Nat,i≤l.length∧iv=.int .i64 i∧Hid ((l.drop i).any (fun c => !charOk c)=RES)∧Hid (Below w.heap.size w wr)) (fun iv _=>l.length - (intOf iv).toNat)
 case atStart=>exact ⟨0,by omega,rfl,H0,Lib.hid (Below.refl _ _)⟩
 case round =>
  obtain ⟨i,hi,rfl,HI,HB⟩:=hrel
  clear H0
  by_cases hlt:i<l.length
  ·have q1:decide ((i:Int)<(l.length:Int))=true:=by rw [decide_eq_true_eq];omega
   have q2:decide (i<l.length)=true:=by rw [decide_eq_true_eq];omega
   obtain ⟨c8,hc8⟩:∃ c,l[i]? = some c:=⟨l[i],List.getElem?_eq_getElem hlt⟩
   obtain ⟨blk,off,rfl,hblk,hcell⟩:=(HR.out.below (HB.out.mono hB)).at_ hlt
   have he:l[i]=c8:=(List.getElem?_eq_some_iff.1 hc8).2
   rw [he] at hcell
   have hnext:=HI.out
   rw [drop_odd hc8] at hnext
   have hc9:=c8.toNat_lt
   clear he
   generalize c8.toNat=c at *
   have HN:=Lib.hid hnext
   have HLT:=Lib.hid hlt
   clear hnext hc8 HI hlt
   cases hok:okCode c
   all_goals (
    have HC:=Lib.hid (fun w=>odd_any c w (by omega))
    rw [hok] at HC
    have HN1:=HN.out
    rw [hok] at HN1
    have HN2:=Lib.hid HN1
    clear HN HN1 hok
    go_wp2_with (go_at_call 152;refine (HC.out _).mono ?_;rintro e w' ⟨rfl,rfl⟩)
    have hn:=HN2.out
    simp only [Bool.not_true,Bool.not_false,Bool.true_or,Bool.false_or] at hn
    have hlt:=HLT.out
    first
     | (go_roundw
        case rel=>exact ⟨i+1,by omega,by go_num,Lib.hid hn,HB⟩
        case measure=>simp [intOf];omega)
     | (subst hn
        go_ret
        exact ⟨_,rfl,decide_eq_true (by omega),by omega,by omega,HB.out⟩))
  ·obtain rfl:i=l.length:=by omega
   have q1:decide ((l.length:Int)<(l.length:Int))=false:=by rw [decide_eq_false_iff_not];omega
   have q2:decide (l.length<l.length)=false:=by rw [decide_eq_false_iff_not];omega
   have hn:=HI.out
   rw [List.drop_length] at hn
   subst hn
   clear HI
   go_wp2_with fail
   go_ret
   exact ⟨_,rfl,rfl,by omega,by omega,HB.out⟩
theorem conb_any (B:Nat) (v:Value) (l:List UInt8) (w:World) (hr:BIn B w v l) (hB:B≤w.heap.size) (hl:l.length≤1000000000000):Calls Tryz.prog 151 #[v,.func (.func 152) #[] #[]] w fun e w'=>e=.returned (.bool (l.any (fun c => !charOk c)))∧Below w.heap.size w w':=by
 have HK:=Lib.hid (idxb_any B v l w hr hB hl)
 clear hr
 generalize l.any (fun c => !charOk c)=RES at *
 go_enter Tryz.func151,Tryz.ntmps151
 go_wp2_with fail
 refine HK.out.mono ?_
 rintro e w1 ⟨r,rfl,hd,h1,h2,hb⟩
 have HB:=Lib.hid hb
 clear hb HK
 go_wp2_with fail
 go_ret
 exact ⟨rfl,HB.out⟩
theorem mnb_any (n:List UInt8) (w:World) (hn:n.length≤1000000000000):Calls Tryz.prog 111 #[.string ⟨n.toArray⟩] w fun e w'=>e=.returned (.bool (!namedL n))∧Below w.heap.size w w':=by
 obtain ⟨s,hs⟩:∃ s:ByteArray,(⟨n.toArray⟩:ByteArray)=s:=⟨_,rfl⟩
 have hl:s.data.toList=n:=by rw [← hs]
 rw [hs]
 have hsz:=str_size hl
 clear hs
 by_cases h1:n.length<1
 ·have e:namedL n=false:=by unfold namedL;rw [decide_eq_false (by omega)];rfl
  rw [e]
  have t1:decide ((s.size:Int)<1)=true:=by rw [decide_eq_true_eq];omega
  have t2:decide (s.size<1)=true:=by rw [decide_eq_true_eq];omega
  clear hl hsz e
  go_enter Tryz.func111,Tryz.ntmps111
  go_wp2_with fail
  go_ret
  exact ⟨rfl,Below.refl _ _⟩
 ·have t1:decide ((s.size:Int)<1)=false:=by rw [decide_eq_false_iff_not];omega
  have t2:decide (s.size<1)=false:=by rw [decide_eq_false_iff_not];omega
  by_cases h2:64<n.length
  ·have e:namedL n=false:=by unfold namedL;rw [decide_eq_false (show ¬ n.length≤64 by omega)];simp
   rw [e]
   have t3:decide ((s.size:Int)>64)=true:=by rw [decide_eq_true_eq];omega
   have t4:decide (64<s.size)=true:=by rw [decide_eq_true_eq];omega
   clear hl hsz e
   go_enter Tryz.func111,Tryz.ntmps111
   go_wp2_with fail
   go_ret
   exact ⟨rfl,Below.refl _ _⟩
  ·have t3:decide ((s.size:Int)>64)=false:=by rw [decide_eq_false_iff_not];omega
   have t4:decide (64<s.size)=false:=by rw [decide_eq_false_iff_not];omega
   have hall:(!namedL n)=n.any (fun c => !charOk c):=by
    unfold namedL
    rw [decide_eq_true (show 1≤n.length by omega),decide_eq_true (show n.length≤64 by omega),Bool.true_and,Bool.true_and,List.not_all_eq_any_not]
   rw [hall]
   clear hall
   obtain ⟨vb,W,hconv,hbin,hbw⟩:=conv_back w s n hl (by omega)
   have HK:=Lib.hid (conb_any W.heap.size vb n W hbin (Nat.le_refl _) (by omega))
   have HB:=Lib.hid hbw
   obtain ⟨p,cap,rfl,_,_⟩:=hbin.shape
   clear hbin hbw hl
   have t5:decide ((n.length:Int)<1)=false:=by rw [decide_eq_false_iff_not];omega
   have t6:decide (64<(n.length:Int))=false:=by rw [decide_eq_false_iff_not];omega
   generalize n.any (fun c => !charOk c)=RES at *
   go_enter Tryz.func111,Tryz.ntmps111
   go_wp2_with fail
   refine HK.out.mono ?_
   rintro e w1 ⟨rfl,hb⟩
   have HB1:=Lib.hid (grow HB.out hb)
   clear hb HK
   go_wp2_with fail
   go_ret
   simp only [t5,t6,Bool.false_or]
   exact ⟨rfl,HB1.out⟩
def SIn (B:Nat) (w:World) (v:Value) (ns:List (List UInt8)):Prop:=RowIn B w v (ns.map (fun n=>Value.string ⟨n.toArray⟩))
theorem SIn.below {B:Nat} {w w':World} {v:Value} {ns:List (List UInt8)} (h:SIn B w v ns) (hb:Below B w w'):SIn B w' v ns:=RowIn.below h hb
theorem SIn.nil_ (B:Nat) (w:World):SIn B w (.slice none 0 0) []:=⟨none,0,rfl,Nat.le_refl _,by unfold maxLen;omega,fun _=>rfl,.inl rfl⟩
theorem SIn.shape {B:Nat} {w:World} {v:Value} {ns:List (List UInt8)} (h:SIn B w v ns):∃ p cap,v=.slice p ns.length cap∧ns.length≤cap∧cap≤maxLen:=by
 obtain ⟨p,cap,hv,h1,h2,_,_⟩:=h
 rw [List.length_map] at hv h1
 exact ⟨p,cap,hv,h1,h2⟩
theorem SIn.at_ {B:Nat} {w:World} {p:Option Addr} {n cap:Nat} {ns:List (List UInt8)} (h:SIn B w (.slice p n cap) ns) {k:Nat} {m:List UInt8} (hk:ns[k]? = some m) :
  ∃ b off,p=some ⟨b,off,none⟩∧b<B∧w.cell? ⟨b,off+k,none⟩=some (.string ⟨m.toArray⟩):=by
 obtain ⟨p',cap',hv,_,_,_,h⟩:=h
 simp only [Value.slice.injEq] at hv
 obtain ⟨rfl,_,_⟩:=hv
 rcases h with h | ⟨b,off,hp,hlt,hc⟩
 ·rw [List.map_eq_nil_iff.1 h] at hk
  simp at hk
 ·exact ⟨b,off,hp,hlt,hc k _ (by rw [List.getElem?_map,hk];rfl)⟩
theorem drop_named {ns:List (List UInt8)} {i:Nat} {n:List UInt8} (hi:ns[i]? = some n):(ns.drop i).any (fun n => !namedL n)=(!namedL n||(ns.drop (i+1)).any (fun n => !namedL n)):=by
 obtain ⟨hlt,he⟩:=List.getElem?_eq_some_iff.1 hi
 rw [List.drop_eq_getElem_cons hlt,List.any_cons,he]
theorem idxs_any (B:Nat) (v:Value) (ns:List (List UInt8)) (w:World) (hr:SIn B w v ns) (hB:B≤w.heap.size) (hl:ns.length≤1000000000000) (hn:∀ n∈ns,n.length≤1000000000000) :
  Calls Tryz.prog 153 #[v,.func (.func 111) #[] #[]] w (IdxLeft (ns.any (fun n => !namedL n)) w):=by
 obtain ⟨p,cap,rfl,hlc,hcm⟩:=hr.shape
 obtain ⟨RES,hRES⟩:∃ RES,ns.any (fun n => !namedL n)=RES:=⟨_,rfl⟩
 rw [hRES]
 have H0:=Lib.hid (show (ns.drop 0).any (fun n => !namedL n)=RES from hRES)
 have HR:=Lib.hid hr
 have HN0:=Lib.hid hn
 clear hr hRES hn
 go_enter Tryz.func153,Tryz.ntmps153
 go_wp2_with fail
 go_loopw [8] (fun iv wr=>∃ i:Nat,i≤ns.length∧iv=.int .i64 i∧Hid ((ns.drop i).any (fun n => !namedL n)=RES)∧Hid (Below w.heap.size w wr)) (fun iv _=>ns.length - (intOf iv).toNat)
 case atStart=>exact ⟨0,by omega,rfl,H0,Lib.hid (Below.refl _ _)⟩
 case round =>
  obtain ⟨i,hi,rfl,HI,HB⟩:=hrel
  clear H0
  by_cases hlt:i<ns.length
  ·have q1:decide ((i:Int)<(ns.length:Int))=true:=by rw [decide_eq_true_eq];omega
   have q2:decide (i<ns.length)=true:=by rw [decide_eq_true_eq];omega
   obtain ⟨n,hc8⟩:∃ c,ns[i]? = some c:=⟨ns[i],List.getElem?_eq_getElem hlt⟩
   obtain ⟨blk,off,rfl,hblk,hcell⟩:=(HR.out.below (HB.out.mono hB)).at_ hc8
   have hnext:=HI.out
   rw [drop_named hc8] at hnext
   have hnl:=HN0.out n (List.mem_of_getElem? hc8)
   have HN:=Lib.hid hnext
   have HLT:=Lib.hid hlt
   clear hnext hc8 HI hlt
   cases hok:namedL n
   all_goals (
    have HC:=Lib.hid (fun w=>mnb_any n w hnl)
    rw [hok] at HC
    have HN1:=HN.out
    rw [hok] at HN1
    have HN2:=Lib.hid HN1
    clear HN HN1 hok hnl
    go_wp2_with fail
    refine (HC.out _).mono ?_
    rintro e w1 ⟨rfl,hb1⟩
    have HB1:=Lib.hid (grow HB.out hb1)
    clear hb1 hcell
    go_wp2_with fail
    have hn:=HN2.out
    simp only [Bool.not_true,Bool.not_false,Bool.true_or,Bool.false_or] at hn
    have hlt:=HLT.out
    first
     | (go_roundw
        case rel=>exact ⟨i+1,by omega,by go_num,Lib.hid hn,HB1⟩
        case measure=>simp [intOf];omega)
     | (subst hn
        go_ret
        exact ⟨_,rfl,decide_eq_true (by omega),by omega,by omega,HB1.out⟩))
  ·obtain rfl:i=ns.length:=by omega
   have q1:decide ((ns.length:Int)<(ns.length:Int))=false:=by rw [decide_eq_false_iff_not];omega
   have q2:decide (ns.length<ns.length)=false:=by rw [decide_eq_false_iff_not];omega
   have hn:=HI.out
   rw [List.drop_length] at hn
   subst hn
   clear HI
   go_wp2_with fail
   go_ret
   exact ⟨_,rfl,rfl,by omega,by omega,HB.out⟩
theorem cons_any (B:Nat) (v:Value) (ns:List (List UInt8)) (w:World) (hr:SIn B w v ns) (hB:B≤w.heap.size) (hl:ns.length≤1000000000000) (hn:∀ n∈ns,n.length≤1000000000000) :
  Calls Tryz.prog 112 #[v,.func (.func 111) #[] #[]] w fun e w'=>e=.returned (.bool (ns.any (fun n => !namedL n)))∧Below w.heap.size w w':=by
 have HK:=Lib.hid (idxs_any B v ns w hr hB hl hn)
 clear hr hn
 generalize ns.any (fun n => !namedL n)=RES at *
 go_enter Tryz.func112,Tryz.ntmps112
 go_wp2_with fail
 refine HK.out.mono ?_
 rintro e w1 ⟨r,rfl,hd,h1,h2,hb⟩
 have HB:=Lib.hid hb
 clear hb HK
 go_wp2_with fail
 go_ret
 exact ⟨rfl,HB.out⟩
end Go.Proofs.YtdfibahafilklaaGreatDoor.DK
