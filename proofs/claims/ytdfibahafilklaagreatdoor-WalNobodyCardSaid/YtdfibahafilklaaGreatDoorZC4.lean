import Derived.Test.YtdfibahafilklaaGreatDoorZC3
import Derived.Test.YtdfibahafilklaaGreatDoorZC2
set_option maxRecDepth 100000
set_option maxHeartbeats 8000000
set_option linter.unusedVariables false
set_option linter.unusedSimpArgs false
namespace Go.Proofs.YtdfibahafilklaaGreatDoor.FM
open VM CM
def sumB (s:Nat):List UInt8:=[UInt8.ofNat (s / 16777216),UInt8.ofNat (s / 65536),UInt8.ofNat (s / 256),UInt8.ofNat s]
def fsum:List UInt8→Nat
 | [a,b,c,d]=>a.toNat*16777216+b.toNat*65536+c.toNat*256+d.toNat
 | _=>0
theorem sumB_length (s:Nat):(sumB s).length=4:=rfl
theorem fsum_sumB {s:Nat} (h:s<4294967296):fsum (sumB s)=s:=by
 simp only [sumB,fsum,UInt8.toNat_ofNat']
 omega
theorem four_of {l:List UInt8} (h:l.length=4):∃ a b c d,l=[a,b,c,d]:=by
 match l,h with
 | [a,b,c,d],_=>exact ⟨a,b,c,d,rfl⟩
theorem fsum_inj {l m:List UInt8} (hl:l.length=4) (hm:m.length=4) (h:fsum l=fsum m):l=m:=by
 obtain ⟨a,b,c,d,rfl⟩:=four_of hl
 obtain ⟨a',b',c',d',rfl⟩:=four_of hm
 simp only [fsum] at h
 have h1:=a.toNat_lt;have h2:=b.toNat_lt;have h3:=c.toNat_lt;have h4:=d.toNat_lt
 have h1':=a'.toNat_lt;have h2':=b'.toNat_lt;have h3':=c'.toNat_lt;have h4':=d'.toNat_lt
 have e1:a=a':=UInt8.toNat_inj.1 (by omega)
 have e2:b=b':=UInt8.toNat_inj.1 (by omega)
 have e3:c=c':=UInt8.toNat_inj.1 (by omega)
 have e4:d=d':=UInt8.toNat_inj.1 (by omega)
 rw [e1,e2,e3,e4]
theorem sumL_lt (l:List UInt8):sumL l<4294967296:=nextL_lt 0 l
def frameL (p:List UInt8):List UInt8:=bytesL p.length++(sumB (sumL (bytesL p.length++p))++p)
theorem frameL_length (p:List UInt8):(frameL p).length=(bytesL p.length).length+(4+p.length):=by
 unfold frameL
 rw [List.length_append,List.length_append,sumB_length]
theorem frameL_bounds (p:List UInt8):5+p.length≤(frameL p).length∧(frameL p).length≤14+p.length:=by
 have:=bytesL_length p.length
 rw [frameL_length]
 omega
def sizeL (n:Int):Int:=if n<0∨16777216<n then 0 else ((bytesL n.toNat).length:Int)+4+n
theorem sizeL_nat {n:Nat} (h:n≤16777216):sizeL (n:Int)=(((bytesL n).length+4+n:Nat):Int):=by
 unfold sizeL
 rw [if_neg (by omega),Int.toNat_natCast]
 omega
theorem sizeL_frame {p:List UInt8} (h:p.length≤16777216):sizeL (p.length:Int)=((frameL p).length:Int):=by
 rw [sizeL_nat h,frameL_length]
 omega
def getR (l:List UInt8):List UInt8×Nat×Int :=
 if (getL l).2.2=6 then ([],0,41)
 else if (getL l).2.2≠0∨16777216<(getL l).1 then ([],0,40)
 else if (l.drop (getL l).2.1).length<4+(getL l).1 then ([],0,41)
 else if fsum ((l.drop (getL l).2.1).take 4)≠sumL (l.take (getL l).2.1++((l.drop (getL l).2.1).drop 4).take (getL l).1) then ([],0,40)
 else (((l.drop (getL l).2.1).drop 4).take (getL l).1,(getL l).2.1+(4+(getL l).1),0)
def restR (l:List UInt8):List UInt8:=if (getR l).2.2=0 then l.drop (getR l).2.1 else []
theorem getL_cases (l:List UInt8):(∃ n k,getL l=(n,k,0)∧n<18446744073709551616∧1≤k∧k≤l.length)∨getL l=(0,0,6)∨getL l=(0,0,20):=by
 have h:=getL_bounds l
 rcases h.2.2.1 with h0 | h0
 ·exact .inl ⟨(getL l).1,(getL l).2.1,by rw [← h0],h.1,h.2.2.2 h0,h.2.1⟩
 ·exact .inr h0
theorem getR_short {l:List UInt8} (h:getL l=(0,0,6)):getR l=([],0,41):=by unfold getR;rw [h];rfl
theorem getR_bad {l:List UInt8} (h:getL l=(0,0,20)):getR l=([],0,40):=by unfold getR;rw [h];rfl
theorem getR_most {l:List UInt8} {n k:Nat} (h:getL l=(n,k,0)) (hn:16777216<n):getR l=([],0,40):=by
 unfold getR
 rw [h]
 show (if (0:Int)=6 then _ else if (0:Int)≠0∨16777216<n then _ else _)=_
 rw [if_neg (by omega),if_pos (.inr hn)]
theorem getR_ok {l:List UInt8} {n k:Nat} (h:getL l=(n,k,0)) (hn:n≤16777216) :
  getR l=if (l.drop k).length<4+n then ([],0,41) else if fsum ((l.drop k).take 4)≠sumL (l.take k++((l.drop k).drop 4).take n) then ([],0,40) else (((l.drop k).drop 4).take n,k+(4+n),0):=by
 unfold getR
 rw [h]
 show (if (0:Int)=6 then _ else if (0:Int)≠0∨16777216<n then _ else _)=_
 rw [if_neg (by omega),if_neg (by omega)]
theorem restR_ok {l p:List UInt8} {k:Nat} (h:getR l=(p,k,0)):restR l=l.drop k:=by unfold restR;rw [h];rfl
theorem restR_err {l:List UInt8} {e:Int} (h:getR l=([],0,e)) (h0:e≠0):restR l=[]:=by unfold restR;rw [h];exact if_neg h0
theorem getR_put {p:List UInt8} (hp:p.length≤16777216) (r:List UInt8):getR (frameL p++r)=(p,(frameL p).length,0):=by
 have h:getL (frameL p++r)=(p.length,(bytesL p.length).length,0):=by
  unfold frameL
  rw [List.append_assoc]
  exact getL_put _ (by omega) _
 have hd:(frameL p++r).drop (bytesL p.length).length=sumB (sumL (bytesL p.length++p))++(p++r):=by
  unfold frameL
  rw [List.append_assoc,List.drop_left,List.append_assoc]
 have ht:(frameL p++r).take (bytesL p.length).length=bytesL p.length:=by
  unfold frameL
  rw [List.append_assoc,List.take_left]
 rw [getR_ok h hp,hd,ht]
 have e1:(sumB (sumL (bytesL p.length++p))++(p++r)).take 4=sumB (sumL (bytesL p.length++p)):=List.take_left' (sumB_length _)
 have e2:((sumB (sumL (bytesL p.length++p))++(p++r)).drop 4)=p++r:=List.drop_left' (sumB_length _)
 rw [e1,e2,List.take_left,fsum_sumB (sumL_lt _),if_neg (by rw [List.length_append,List.length_append,sumB_length];omega),if_neg (by simp),frameL_length]
theorem getR_back {l p:List UInt8} {k:Nat} (h:getR l=(p,k,0)):p.length≤16777216∧k=(frameL p).length∧frameL p++l.drop k=l:=by
 rcases getL_cases l with ⟨n,q,hg,hb,hq1,hq2⟩ | hg | hg
 ·by_cases hn:n≤16777216
  ·rw [getR_ok hg hn] at h
   split at h
   ·cases h
   ·rename_i hlen
    split at h
    ·cases h
    ·rename_i hs
     simp only [ne_eq,Decidable.not_not] at hs
     simp only [Prod.mk.injEq] at h
     obtain ⟨hp,hk,_⟩:=h
     have hbk:=getL_back hg
     have hl:((l.drop q).drop 4).length=(l.drop q).length - 4:=by rw [List.length_drop]
     have hpl:p.length=n:=by rw [← hp,List.length_take];omega
     have hbt:bytesL n=l.take q:=by
      have e:l.take q++l.drop q=l:=List.take_append_drop q l
      exact List.append_cancel_right (hbk.trans e.symm)
     have hbl:(bytesL n).length=q:=by rw [hbt,List.length_take];omega
     have hd4:((l.drop q).take 4).length=4:=by rw [List.length_take];omega
     have hsum:(l.drop q).take 4=sumB (sumL (bytesL n++p)):=by
      refine fsum_inj hd4 (sumB_length _) ?_
      rw [fsum_sumB (sumL_lt _),hs,hbt,hp]
     have hfl:(frameL p).length=k:=by rw [frameL_length,hpl,hbl];omega
     refine ⟨by omega,hfl.symm,?_⟩
     unfold frameL
     rw [hpl,← hsum,hbt,← hp,← hk,List.append_assoc,List.append_assoc]
     rw [← List.drop_drop,← List.drop_drop,List.take_append_drop,List.take_append_drop,List.take_append_drop]
  ·rw [getR_most hg (by omega)] at h
   cases h
 ·rw [getR_short hg] at h
  cases h
 ·rw [getR_bad hg] at h
  cases h
theorem getR_err (l:List UInt8):(∃ p k,getR l=(p,k,0))∨getR l=([],0,41)∨getR l=([],0,40):=by
 rcases getL_cases l with ⟨n,q,hg,hb,hq1,hq2⟩ | hg | hg
 ·by_cases hn:n≤16777216
  ·rw [getR_ok hg hn]
   split
   ·exact .inr (.inl rfl)
   ·split
    ·exact .inr (.inr rfl)
    ·exact .inl ⟨_,_,rfl⟩
  ·exact .inr (.inr (getR_most hg (by omega)))
 ·exact .inr (.inl (getR_short hg))
 ·exact .inr (.inr (getR_bad hg))
theorem getR_torn {p:List UInt8} (hp:p.length≤16777216) {j:Nat} (hj:j<(frameL p).length):getR ((frameL p).take j)=([],0,41):=by
 have hfl:=frameL_length p
 by_cases h1:j<(bytesL p.length).length
 ·refine getR_short ?_
  have e:(frameL p).take j=(bytesL p.length).take j:=by
   unfold frameL
   exact List.take_append_of_le_length (by omega)
  rw [e]
  exact getL_part _ _ (by omega) h1
 ·have e:(frameL p).take j=bytesL p.length++(sumB (sumL (bytesL p.length++p))++p).take (j - (bytesL p.length).length):=by
   unfold frameL
   rw [List.take_append,List.take_of_length_le (by omega)]
  have hg:getL ((frameL p).take j)=(p.length,(bytesL p.length).length,0):=by rw [e];exact getL_put _ (by omega) _
  rw [getR_ok hg hp,if_pos]
  rw [List.length_drop,List.length_take]
  omega
def framesL (ps:List (List UInt8)):List UInt8:=(ps.map frameL).flatten
theorem framesL_nil:framesL []=[]:=rfl
theorem framesL_cons (p:List UInt8) (ps:List (List UInt8)):framesL (p::ps)=frameL p++framesL ps:=by simp [framesL]
theorem framesL_append (ps qs:List (List UInt8)):framesL (ps++qs)=framesL ps++framesL qs:=by simp [framesL]
theorem framesL_snoc (ps:List (List UInt8)) {k:Nat} (hk:k<ps.length):framesL (ps.take (k+1))=framesL (ps.take k)++frameL ps[k]:=by
 rw [List.take_succ_eq_append_getElem hk,framesL_append,framesL_cons,framesL_nil,List.append_nil]
theorem framesL_take (ps:List (List UInt8)) (k:Nat):(framesL (ps.take k)).length≤(framesL ps).length:=by
 have h:framesL ps=framesL (ps.take k)++framesL (ps.drop k):=by rw [← framesL_append,List.take_append_drop]
 rw [h,List.length_append]
 omega
inductive Splits:List UInt8→List (List UInt8)→Nat→Int→Prop
 | none_:Splits [] [] 0 0
 | stop {l:List UInt8} {e:Int}:l≠[]→getR l=([],0,e)→e≠0→Splits l [] 0 e
 | more {p r:List UInt8} {ps:List (List UInt8)} {k:Nat} {e:Int}:p.length≤16777216→Splits r ps k e→Splits (frameL p++r) (p::ps) ((frameL p).length+k) e
theorem frameL_ne {p r:List UInt8}:frameL p++r≠[]:=by
 have:=(frameL_bounds p).1
 intro h
 have h2:(frameL p++r).length=0:=by rw [h];rfl
 rw [List.length_append] at h2
 omega
theorem frameL_inj {p q r s:List UInt8} (hp:p.length≤16777216) (hq:q.length≤16777216) (h:frameL p++r=frameL q++s):p=q∧r=s:=by
 have h1:=getR_put hp r
 rw [h,getR_put hq s] at h1
 simp only [Prod.mk.injEq] at h1
 obtain ⟨rfl,_,_⟩:=h1
 exact ⟨rfl,List.append_cancel_left h⟩
theorem Splits.told {l:List UInt8} {ps:List (List UInt8)} {k:Nat} {e:Int} (h:Splits l ps k e):framesL ps=l.take k∧k≤l.length∧(framesL ps).length=k∧(∀ p∈ps,p.length≤16777216)∧(e=0↔k=l.length)∧(e=0∨e=41∨e=40):=by
 induction h with
 | none_=>simp [framesL]
 | stop hne hg he =>
   rename_i l e
   have hl:l.length≠0:=fun h=>hne (List.eq_nil_of_length_eq_zero h)
   refine ⟨by simp [framesL],by omega,rfl,by simp,⟨fun h=>absurd h he,fun h=>by omega⟩,?_⟩
   rcases getR_err l with ⟨p,k,h⟩ | h | h
   ·rw [h] at hg
    simp only [Prod.mk.injEq] at hg
    exact .inl hg.2.2.symm
   ·rw [h] at hg
    simp only [Prod.mk.injEq,true_and] at hg
    exact .inr (.inl hg.symm)
   ·rw [h] at hg
    simp only [Prod.mk.injEq,true_and] at hg
    exact .inr (.inr hg.symm)
 | more hp hs ih =>
   obtain ⟨h1,h2,h3,h4,h5,h6⟩:=ih
   rename_i p r ps k e
   refine ⟨?_,?_,?_,?_,?_,h6⟩
   ·rw [framesL_cons,h1,List.take_append,List.take_of_length_le (l:=frameL p) (by omega),Nat.add_sub_cancel_left]
   ·rw [List.length_append];omega
   ·rw [framesL_cons,List.length_append,h3]
   ·intro q hq
    rcases List.mem_cons.1 hq with rfl | hq
    ·exact hp
    ·exact h4 q hq
   ·rw [List.length_append,h5]
    omega
end Go.Proofs.YtdfibahafilklaaGreatDoor.FM
namespace Go.Proofs.YtdfibahafilklaaGreatDoor.CR
open Go.RowKit MM CM
theorem zero_arr:∃ Z:Array Value,Z.size=256∧Z[0]? = some (.int .u32 0)∧∀ W,Sem.run Tryz.prog (zeroValue 242) W=.ok (.agg Z) W :=
 ⟨Array.replicate 256 (.int .u32 0),by simp,by simp,fun W=>by kernel_rfl⟩
def Tab (B n:Nat) (w:World):Prop:=∃ cur:Array Value,w.heap[B]? = some (.cells cur 242 (0,0))∧cur.size=256∧∀ k,k<n→cur[k]? = some (.int .u32 (steps 8 k))
theorem Tab.cell {B n:Nat} {w:World} (h:Tab B n w) {k:Nat} (hk:k<n):w.cell? ⟨B,k,none⟩=some (.int .u32 (steps 8 k)):=by
 obtain ⟨cur,hb,_,hc⟩:=h
 rw [cell_of_row w B k cur _ _ hb]
 exact hc k hk
theorem Tab.there {B n:Nat} {w:World} (h:Tab B n w) {k:Nat} (hk:k<256):∃ v,w.cell? ⟨B,k,none⟩=some v:=by
 obtain ⟨cur,hb,hs,_⟩:=h
 exact ⟨cur[k],by rw [cell_of_row w B k cur _ _ hb];simp [hs,hk]⟩
theorem Tab.free {B n:Nat} {w:World} (h:Tab B n w) (k:Nat):w.frozen? ⟨B,k,none⟩=false:=by
 obtain ⟨cur,hb,_,_⟩:=h
 exact frozen_of_row w B k cur _ hb
theorem Tab.put {B n:Nat} {w:World} (h:Tab B n w) (hn:n<256):Tab B (n+1) (w.setCell ⟨B,n,none⟩ (.int .u32 (steps 8 n))):=by
 obtain ⟨cur,hb,hs,hc⟩:=h
 refine ⟨_,heap_setCell_same w B n cur _ _ hb,by simp [hs],fun k hk => ?_⟩
 by_cases hkn:k=n
 ·subst hkn
  simp [hs,hn]
 ·rw [Array.getElem?_setIfInBounds_ne (by omega)]
  exact hc k (by omega)
theorem Tab.mono {B n m:Nat} {w:World} (h:Tab B n w) (hm:m≤n):Tab B m w:=by
 obtain ⟨cur,hb,hs,hc⟩:=h
 exact ⟨cur,hb,hs,fun k hk=>hc k (by omega)⟩
def tab:Array Value:=((List.range 256).map (fun k=>Value.int .u32 (steps 8 k:Nat))).toArray
theorem tab_size:tab.size=256:=by simp [tab]
theorem tab_get {k:Nat} (hk:k<256):tab[k]? = some (.int .u32 (steps 8 k:Nat)):=by simp [tab,hk]
theorem Tab.all {B:Nat} {w:World} (h:Tab B 256 w):w.heap[B]? = some (.cells tab 242 (0,0)):=by
 obtain ⟨cur,hb,hs,hc⟩:=h
 have:cur=tab:=by
  apply Array.ext_getElem?
  intro k
  by_cases hk:k<256
  ·rw [hc k hk,tab_get hk]
  ·rw [Array.getElem?_eq_none (by omega),Array.getElem?_eq_none (by rw [tab_size];omega)]
 rw [← this]
 exact hb
theorem infoArr:(Tryz.prog.info? 242).map (·.size)=some 256:=by kernel_rfl
theorem pow_xor_all:∀ j:Fin 8,∀ k:Fin 128,k.val<2^j.val→2^j.val ^^^ k.val=2^j.val+k.val:=by decide +kernel
theorem pow_xor:∀ j,j<8→∀ k,k<2^j→2^j ^^^ k=2^j+k:=by
 intro j hj k hk
 have h1:2^j≤2^7:=Nat.pow_le_pow_right (by omega) (by omega)
 exact pow_xor_all ⟨j,hj⟩ ⟨k,by omega⟩ hk
theorem tab_one:tab.all (·.oneCell')=true:=by
 rw [Array.all_eq_true]
 intro k hk
 rw [tab_size] at hk
 have h:=tab_get hk
 rw [Array.getElem?_eq_some_iff] at h
 obtain ⟨_,h⟩:=h
 rw [h]
 rfl
theorem below_setRow {B g:Nat} {a w:World} (cs:Array Value) (h:Below B a w) (hg:B≤g):Below B a (w.setRow g cs) :=
 ⟨h.os,h.tape,h.output,by rw [setRow_size];exact h.size,fun i hi=>by rw [setRow_other w g i cs (by omega)];exact h.block i hi⟩
theorem pow_bits {j k:Nat} (hj:j<8) (hk:k<2^j):bits .xor .u32 ((steps 8 (2^j):Nat):Int) ((steps 8 k:Nat):Int)=((steps 8 (2^j+k):Nat):Int):=by
 have h1:2^j≤2^7:=Nat.pow_le_pow_right (by omega) (by omega)
 rw [u32_xor_nat _ _ (steps_lt 8 (by omega)) (steps_lt 8 (by omega)),← steps_xor,pow_xor j hj k hk]
theorem tab_any (w:World):Calls Tryz.prog 187 #[] w fun e w'=>e=.returned (.agg tab)∧Below w.heap.size w w':=by
 obtain ⟨T,hT⟩:∃ T,tab=T:=⟨_,rfl⟩
 have HTs:Hid (T.size=256):=Lib.hid (hT▸tab_size)
 have HT1:Hid (T.all (·.oneCell')=true):=Lib.hid (hT▸tab_one)
 have HTab:Hid (∀ W,Tab w.heap.size 256 W→W.heap[w.heap.size]? = some (.cells T 242 (0,0))):=Lib.hid (fun W h=>hT▸h.all)
 rw [hT]
 clear hT
 obtain ⟨Z,hZ,hZ0,hz⟩:=zero_arr
 have ht0:Tab w.heap.size 1 (w.alloc (.cells Z 242)):=⟨Z,heap_alloc_new _ _,hZ,fun k hk=>by obtain rfl:k=0:=(by omega);rw [hZ0,steps_none];rfl⟩
 have hb0:Below w.heap.size w (w.alloc (.cells Z 242)):=(Below.refl _ _).alloc (Nat.le_refl _) _
 have HT0:=Lib.hid ht0
 have HB0:=Lib.hid hb0
 clear ht0 hb0 hZ hZ0
 go_enter Tryz.func187,Tryz.ntmps187
 go_wp2_with fail
 go_loopw [1] (fun h wr=>∃ j H:Nat,j≤8∧Hid (2^j=H)∧h=.int .i64 H∧0<H∧H≤256∧Hid (Tab w.heap.size H wr)∧Hid (Below w.heap.size w wr)) (fun h _=>256 - (intOf h).toNat)
 case atStart=>exact ⟨0,1,by omega,Lib.hid rfl,rfl,by omega,by omega,HT0,HB0⟩
 case round =>
  obtain ⟨j,H,hj,HJ,rfl,h0,h256,HT,HB⟩:=hrel
  clear HT0 HB0 hz
  by_cases hlt:H<256
  ·have hu:H<4294967296:=by omega
   go_wp2_with fail
   refine (turns_any H _ hu).mono ?_
   rintro e w1 ⟨rfl,rfl⟩
   have hs0:=steps_lt 8 hu
   go_wp2_with fail
   go_loopw [12] (fun i wr2=>∃ k:Nat,k≤H∧i=.int .i64 k∧Hid (Tab w.heap.size (H+k) wr2)∧Hid (Below w.heap.size w wr2)) (fun i _=>H - (intOf i).toNat)
   case atStart=>exact ⟨0,by omega,rfl,HT,HB⟩
   case round =>
    obtain ⟨k,hk,rfl,HT2,HB2⟩:=hrel
    clear HT HB
    by_cases hkH:k<H
    ·have hcell:=HT2.out.cell (k:=k) (by omega)
     have hfz:=HT2.out.free (H+k)
     have hp:H=2^j:=HJ.out.symm
     have hj8:j<8:=by
      rcases Nat.lt_or_ge j 8 with h | h
      ·exact h
      ·have:j=8:=by omega
       rw [this] at hp
       omega
     have hxor:=pow_bits (j:=j) (k:=k) hj8 (hp▸hkH)
     have hp1:2^(j+1)=H*2:=by rw [Nat.pow_succ,← hp]
     have hp2:2^(j+1)≤2^8:=Nat.pow_le_pow_right (by omega) (by omega)
     have hH:H*2≤256:=by omega
     clear hp1 hp2
     obtain ⟨old,hold⟩:=HT2.out.there (k:=H+k) (by omega)
     have hb1:(0:Int)≤(H:Int)+k:=by omega
     have hb2:(H:Int)+k<256:=by omega
     rw [← hp] at hxor
     have HT3:=Lib.hid (HT2.out.put (by omega))
     have HB3:=Lib.hid (HB2.out.setCell (p:=⟨w.heap.size,H+k,none⟩) (Nat.le_refl _) (.int .u32 (steps 8 (H+k):Nat)))
     clear hp hj8 HT2 HB2
     go_wp2_with fail
     go_roundw
     case rel=>exact ⟨k+1,by omega,by go_num,HT3,HB3⟩
     case measure=>simp [intOf];omega
    ·obtain rfl:k=H:=by omega
     go_wp2_with fail
     go_roundw
     have hp:2^j=k:=HJ.out
     have hj8:j<8:=by
      rcases Nat.lt_or_ge j 8 with h | h
      ·exact h
      ·have:j=8:=by omega
       rw [this] at hp
       omega
     have hp1:2^(j+1)=k*2:=by rw [Nat.pow_succ,hp]
     have hp2:2^(j+1)≤2^8:=Nat.pow_le_pow_right (by omega) (by omega)
     case rel=>exact ⟨j+1,k*2,by omega,Lib.hid hp1,by go_num,by omega,by omega,Lib.hid (HT2.out.mono (by omega)),HB2⟩
     case measure=>simp [intOf];omega
  ·obtain rfl:H=256:=by omega
   have hg:=HTab.out _ HT.out
   have hs:=HTs.out
   have hi:(Tryz.prog.info? 242).map (·.size)=some T.size:=by rw [hs];exact infoArr
   have hg2:=setRow_heap wr w.heap.size T T _ _ hg
   have HG2:=Lib.hid hg2
   have HB3:=Lib.hid (below_setRow T HB.out (Nat.le_refl _))
   clear hg2 hs
   go_wp2_with (first | refine wpList_load_row rfl 242 (.tmp 0) rfl w.heap.size rfl 242 T (0,0) (.array 256 159) hg Tryz.underlying242 rfl hi ?_ | refine wpList_store_row rfl 242 (.tmp 0) (.tmp 25) rfl w.heap.size T rfl rfl 242 T hg hi rfl HT1.out ?_)
   refine bodyPost_ret (v:=.agg T) (results_cell_row rfl _ _ w.heap.size 242 T (0,0) (.array 256 159) rfl HG2.out Tryz.underlying242 rfl hi) rfl ⟨rfl,HB3.out⟩
end Go.Proofs.YtdfibahafilklaaGreatDoor.CR
