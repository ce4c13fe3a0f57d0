import Derived.Test.YtdfibahafilklaaGreatDoorZB8
set_option maxRecDepth 100000
set_option maxHeartbeats 8000000
set_option linter.unusedVariables false
set_option linter.unusedSimpArgs false
namespace Go.Proofs.YtdfibahafilklaaGreatDoor.FM
open VM CM
def sumB (s:Nat):List UInt8:=[UInt8.ofNat (s / 16777216),UInt8.ofNat (s / 65536),UInt8.ofNat (s / 256),UInt8.ofNat s]
def fsum:List UInt8→Nat
 | [a,b,c,d]=>a.toNat*16777216+b.toNat*65536+c.toNat*256+d.toNat
 | _=>0
theorem sumB_length (s:Nat):(sumB s).length=4:=rfl
theorem fsum_sumB {s:Nat} (h:s<4294967296):fsum (sumB s)=s:=by
 simp only [sumB,fsum,UInt8.toNat_ofNat']
 omega
theorem four_of {l:List UInt8} (h:l.length=4):∃ a b c d,l=[a,b,c,d]:=by
 match l,h with
 | [a,b,c,d],_=>exact ⟨a,b,c,d,rfl⟩
theorem fsum_inj {l m:List UInt8} (hl:l.length=4) (hm:m.length=4) (h:fsum l=fsum m):l=m:=by
 obtain ⟨a,b,c,d,rfl⟩:=four_of hl
 obtain ⟨a',b',c',d',rfl⟩:=four_of hm
 simp only [fsum] at h
 have h1:=a.toNat_lt;have h2:=b.toNat_lt;have h3:=c.toNat_lt;have h4:=d.toNat_lt
 have h1':=a'.toNat_lt;have h2':=b'.toNat_lt;have h3':=c'.toNat_lt;have h4':=d'.toNat_lt
 have e1:a=a':=UInt8.toNat_inj.1 (by omega)
 have e2:b=b':=UInt8.toNat_inj.1 (by omega)
 have e3:c=c':=UInt8.toNat_inj.1 (by omega)
 have e4:d=d':=UInt8.toNat_inj.1 (by omega)
 rw [e1,e2,e3,e4]
theorem sumL_lt (l:List UInt8):sumL l<4294967296:=nextL_lt 0 l
def frameL (p:List UInt8):List UInt8:=bytesL p.length++(sumB (sumL (bytesL p.length++p))++p)
theorem frameL_length (p:List UInt8):(frameL p).length=(bytesL p.length).length+(4+p.length):=by
 unfold frameL
 rw [List.length_append,List.length_append,sumB_length]
theorem frameL_bounds (p:List UInt8):5+p.length≤(frameL p).length∧(frameL p).length≤14+p.length:=by
 have:=bytesL_length p.length
 rw [frameL_length]
 omega
def sizeL (n:Int):Int:=if n<0∨16777216<n then 0 else ((bytesL n.toNat).length:Int)+4+n
theorem sizeL_nat {n:Nat} (h:n≤16777216):sizeL (n:Int)=(((bytesL n).length+4+n:Nat):Int):=by
 unfold sizeL
 rw [if_neg (by omega),Int.toNat_natCast]
 omega
theorem sizeL_frame {p:List UInt8} (h:p.length≤16777216):sizeL (p.length:Int)=((frameL p).length:Int):=by
 rw [sizeL_nat h,frameL_length]
 omega
def getR (l:List UInt8):List UInt8×Nat×Int :=
 if (getL l).2.2=6 then ([],0,41)
 else if (getL l).2.2≠0∨16777216<(getL l).1 then ([],0,40)
 else if (l.drop (getL l).2.1).length<4+(getL l).1 then ([],0,41)
 else if fsum ((l.drop (getL l).2.1).take 4)≠sumL (l.take (getL l).2.1++((l.drop (getL l).2.1).drop 4).take (getL l).1) then ([],0,40)
 else (((l.drop (getL l).2.1).drop 4).take (getL l).1,(getL l).2.1+(4+(getL l).1),0)
def restR (l:List UInt8):List UInt8:=if (getR l).2.2=0 then l.drop (getR l).2.1 else []
theorem getL_cases (l:List UInt8):(∃ n k,getL l=(n,k,0)∧n<18446744073709551616∧1≤k∧k≤l.length)∨getL l=(0,0,6)∨getL l=(0,0,20):=by
 have h:=getL_bounds l
 rcases h.2.2.1 with h0 | h0
 ·exact .inl ⟨(getL l).1,(getL l).2.1,by rw [← h0],h.1,h.2.2.2 h0,h.2.1⟩
 ·exact .inr h0
theorem getR_short {l:List UInt8} (h:getL l=(0,0,6)):getR l=([],0,41):=by unfold getR;rw [h];rfl
theorem getR_bad {l:List UInt8} (h:getL l=(0,0,20)):getR l=([],0,40):=by unfold getR;rw [h];rfl
theorem getR_most {l:List UInt8} {n k:Nat} (h:getL l=(n,k,0)) (hn:16777216<n):getR l=([],0,40):=by
 unfold getR
 rw [h]
 show (if (0:Int)=6 then _ else if (0:Int)≠0∨16777216<n then _ else _)=_
 rw [if_neg (by omega),if_pos (.inr hn)]
theorem getR_ok {l:List UInt8} {n k:Nat} (h:getL l=(n,k,0)) (hn:n≤16777216) :
  getR l=if (l.drop k).length<4+n then ([],0,41) else if fsum ((l.drop k).take 4)≠sumL (l.take k++((l.drop k).drop 4).take n) then ([],0,40) else (((l.drop k).drop 4).take n,k+(4+n),0):=by
 unfold getR
 rw [h]
 show (if (0:Int)=6 then _ else if (0:Int)≠0∨16777216<n then _ else _)=_
 rw [if_neg (by omega),if_neg (by omega)]
theorem restR_ok {l p:List UInt8} {k:Nat} (h:getR l=(p,k,0)):restR l=l.drop k:=by unfold restR;rw [h];rfl
theorem restR_err {l:List UInt8} {e:Int} (h:getR l=([],0,e)) (h0:e≠0):restR l=[]:=by unfold restR;rw [h];exact if_neg h0
theorem getR_put {p:List UInt8} (hp:p.length≤16777216) (r:List UInt8):getR (frameL p++r)=(p,(frameL p).length,0):=by
 have h:getL (frameL p++r)=(p.length,(bytesL p.length).length,0):=by
  unfold frameL
  rw [List.append_assoc]
  exact getL_put _ (by omega) _
 have hd:(frameL p++r).drop (bytesL p.length).length=sumB (sumL (bytesL p.length++p))++(p++r):=by
  unfold frameL
  rw [List.append_assoc,List.drop_left,List.append_assoc]
 have ht:(frameL p++r).take (bytesL p.length).length=bytesL p.length:=by
  unfold frameL
  rw [List.append_assoc,List.take_left]
 rw [getR_ok h hp,hd,ht]
 have e1:(sumB (sumL (bytesL p.length++p))++(p++r)).take 4=sumB (sumL (bytesL p.length++p)):=List.take_left' (sumB_length _)
 have e2:((sumB (sumL (bytesL p.length++p))++(p++r)).drop 4)=p++r:=List.drop_left' (sumB_length _)
 rw [e1,e2,List.take_left,fsum_sumB (sumL_lt _),if_neg (by rw [List.length_append,List.length_append,sumB_length];omega),if_neg (by simp),frameL_length]
theorem getR_back {l p:List UInt8} {k:Nat} (h:getR l=(p,k,0)):p.length≤16777216∧k=(frameL p).length∧frameL p++l.drop k=l:=by
 rcases getL_cases l with ⟨n,q,hg,hb,hq1,hq2⟩ | hg | hg
 ·by_cases hn:n≤16777216
  ·rw [getR_ok hg hn] at h
   split at h
   ·cases h
   ·rename_i hlen
    split at h
    ·cases h
    ·rename_i hs
     simp only [ne_eq,Decidable.not_not] at hs
     simp only [Prod.mk.injEq] at h
     obtain ⟨hp,hk,_⟩:=h
     have hbk:=getL_back hg
     have hl:((l.drop q).drop 4).length=(l.drop q).length - 4:=by rw [List.length_drop]
     have hpl:p.length=n:=by rw [← hp,List.length_take];omega
     have hbt:bytesL n=l.take q:=by
      have e:l.take q++l.drop q=l:=List.take_append_drop q l
      exact List.append_cancel_right (hbk.trans e.symm)
     have hbl:(bytesL n).length=q:=by rw [hbt,List.length_take];omega
     have hd4:((l.drop q).take 4).length=4:=by rw [List.length_take];omega
     have hsum:(l.drop q).take 4=sumB (sumL (bytesL n++p)):=by
      refine fsum_inj hd4 (sumB_length _) ?_
      rw [fsum_sumB (sumL_lt _),hs,hbt,hp]
     have hfl:(frameL p).length=k:=by rw [frameL_length,hpl,hbl];omega
     refine ⟨by omega,hfl.symm,?_⟩
     unfold frameL
     rw [hpl,← hsum,hbt,← hp,← hk,List.append_assoc,List.append_assoc]
     rw [← List.drop_drop,← List.drop_drop,List.take_append_drop,List.take_append_drop,List.take_append_drop]
  ·rw [getR_most hg (by omega)] at h
   cases h
 ·rw [getR_short hg] at h
  cases h
 ·rw [getR_bad hg] at h
  cases h
theorem getR_err (l:List UInt8):(∃ p k,getR l=(p,k,0))∨getR l=([],0,41)∨getR l=([],0,40):=by
 rcases getL_cases l with ⟨n,q,hg,hb,hq1,hq2⟩ | hg | hg
 ·by_cases hn:n≤16777216
  ·rw [getR_ok hg hn]
   split
   ·exact .inr (.inl rfl)
   ·split
    ·exact .inr (.inr rfl)
    ·exact .inl ⟨_,_,rfl⟩
  ·exact .inr (.inr (getR_most hg (by omega)))
 ·exact .inr (.inl (getR_short hg))
 ·exact .inr (.inr (getR_bad hg))
theorem getR_torn {p:List UInt8} (hp:p.length≤16777216) {j:Nat} (hj:j<(frameL p).length):getR ((frameL p).take j)=([],0,41):=by
 have hfl:=frameL_length p
 by_cases h1:j<(bytesL p.length).length
 ·refine getR_short ?_
  have e:(frameL p).take j=(bytesL p.length).take j:=by
   unfold frameL
   exact List.take_append_of_le_length (by omega)
  rw [e]
  exact getL_part _ _ (by omega) h1
 ·have e:(frameL p).take j=bytesL p.length++(sumB (sumL (bytesL p.length++p))++p).take (j - (bytesL p.length).length):=by
   unfold frameL
   rw [List.take_append,List.take_of_length_le (by omega)]
  have hg:getL ((frameL p).take j)=(p.length,(bytesL p.length).length,0):=by rw [e];exact getL_put _ (by omega) _
  rw [getR_ok hg hp,if_pos]
  rw [List.length_drop,List.length_take]
  omega
def framesL (ps:List (List UInt8)):List UInt8:=(ps.map frameL).flatten
theorem framesL_nil:framesL []=[]:=rfl
theorem framesL_cons (p:List UInt8) (ps:List (List UInt8)):framesL (p::ps)=frameL p++framesL ps:=by simp [framesL]
theorem framesL_append (ps qs:List (List UInt8)):framesL (ps++qs)=framesL ps++framesL qs:=by simp [framesL]
theorem framesL_snoc (ps:List (List UInt8)) {k:Nat} (hk:k<ps.length):framesL (ps.take (k+1))=framesL (ps.take k)++frameL ps[k]:=by
 rw [List.take_succ_eq_append_getElem hk,framesL_append,framesL_cons,framesL_nil,List.append_nil]
theorem framesL_take (ps:List (List UInt8)) (k:Nat):(framesL (ps.take k)).length≤(framesL ps).length:=by
 have h:framesL ps=framesL (ps.take k)++framesL (ps.drop k):=by rw [← framesL_append,List.take_append_drop]
 rw [h,List.length_append]
 omega
inductive Splits:List UInt8→List (List UInt8)→Nat→Int→Prop
 | none_:Splits [] [] 0 0
 | stop {l:List UInt8} {e:Int}:l≠[]→getR l=([],0,e)→e≠0→Splits l [] 0 e
 | more {p r:List UInt8} {ps:List (List UInt8)} {k:Nat} {e:Int}:p.length≤16777216→Splits r ps k e→Splits (frameL p++r) (p::ps) ((frameL p).length+k) e
theorem frameL_ne {p r:List UInt8}:frameL p++r≠[]:=by
 have:=(frameL_bounds p).1
 intro h
 have h2:(frameL p++r).length=0:=by rw [h];rfl
 rw [List.length_append] at h2
 omega
theorem frameL_inj {p q r s:List UInt8} (hp:p.length≤16777216) (hq:q.length≤16777216) (h:frameL p++r=frameL q++s):p=q∧r=s:=by
 have h1:=getR_put hp r
 rw [h,getR_put hq s] at h1
 simp only [Prod.mk.injEq] at h1
 obtain ⟨rfl,_,_⟩:=h1
 exact ⟨rfl,List.append_cancel_left h⟩
theorem Splits.told {l:List UInt8} {ps:List (List UInt8)} {k:Nat} {e:Int} (h:Splits l ps k e):framesL ps=l.take k∧k≤l.length∧(framesL ps).length=k∧(∀ p∈ps,p.length≤16777216)∧(e=0↔k=l.length)∧(e=0∨e=41∨e=40):=by
 induction h with
 | none_=>simp [framesL]
 | stop hne hg he =>
   rename_i l e
   have hl:l.length≠0:=fun h=>hne (List.eq_nil_of_length_eq_zero h)
   refine ⟨by simp [framesL],by omega,rfl,by simp,⟨fun h=>absurd h he,fun h=>by omega⟩,?_⟩
   rcases getR_err l with ⟨p,k,h⟩ | h | h
   ·rw [h] at hg
    simp only [Prod.mk.injEq] at hg
    exact .inl hg.2.2.symm
   ·rw [h] at hg
    simp only [Prod.mk.injEq,true_and] at hg
    exact .inr (.inl hg.symm)
   ·rw [h] at hg
    simp only [Prod.mk.injEq,true_and] at hg
    exact .inr (.inr hg.symm)
 | more hp hs ih =>
   obtain ⟨h1,h2,h3,h4,h5,h6⟩:=ih
   rename_i p r ps k e
   refine ⟨?_,?_,?_,?_,?_,h6⟩
   ·rw [framesL_cons,h1,List.take_append,List.take_of_length_le (l:=frameL p) (by omega),Nat.add_sub_cancel_left]
   ·rw [List.length_append];omega
   ·rw [framesL_cons,List.length_append,h3]
   ·intro q hq
    rcases List.mem_cons.1 hq with rfl | hq
    ·exact hp
    ·exact h4 q hq
   ·rw [List.length_append,h5]
    omega
end Go.Proofs.YtdfibahafilklaaGreatDoor.FM
namespace Go.Proofs.YtdfibahafilklaaGreatDoor.MM
open Go Go.RowKit
def Two (w:World) (g:Nat) (t:TypeId) (a b:Value):Prop:=w.heap[g]? = some (.cells #[a,b] t (0,0))
theorem Two.lt {w:World} {g:Nat} {t:TypeId} {a b:Value} (h:Two w g t a b):g<w.heap.size:=(Array.getElem?_eq_some_iff.1 h).1
theorem Two.c0 {w:World} {g:Nat} {t:TypeId} {a b:Value} (h:Two w g t a b):w.cell? ⟨g,0,none⟩=some a:=by rw [cell_of_row w g 0 _ _ _ h];rfl
theorem Two.c1 {w:World} {g:Nat} {t:TypeId} {a b:Value} (h:Two w g t a b):w.cell? ⟨g,1,none⟩=some b:=by rw [cell_of_row w g 1 _ _ _ h];rfl
theorem Two.f0 {w:World} {g:Nat} {t:TypeId} {a b:Value} (h:Two w g t a b):w.frozen? ⟨g,0,none⟩=false:=frozen_of_row w g 0 _ _ h
theorem Two.f1 {w:World} {g:Nat} {t:TypeId} {a b:Value} (h:Two w g t a b):w.frozen? ⟨g,1,none⟩=false:=frozen_of_row w g 1 _ _ h
theorem Two.s0 {w:World} {g:Nat} {t:TypeId} {a b:Value} (h:Two w g t a b) (x:Value):Two (w.setCell ⟨g,0,none⟩ x) g t x b:=heap_setCell_same w g 0 _ _ x h
theorem Two.s1 {w:World} {g:Nat} {t:TypeId} {a b:Value} (h:Two w g t a b) (x:Value):Two (w.setCell ⟨g,1,none⟩ x) g t a x:=heap_setCell_same w g 1 _ _ x h
theorem Two.s01 {w:World} {g:Nat} {t:TypeId} {a b:Value} (h:Two w g t a b) (x y:Value):Two ((w.setCell ⟨g,0,none⟩ x).setCell ⟨g,1,none⟩ y) g t x y:=(h.s0 x).s1 y
theorem Two.keep {S:Nat→Prop} {w w':World} {g:Nat} {t:TypeId} {a b:Value} (h:Two w g t a b) (hk:Kep S w w') (hS:S g):Two w' g t a b:=(hk.block g h.lt hS).trans h
theorem Two.below {B:Nat} {w w':World} {g:Nat} {t:TypeId} {a b:Value} (h:Two w g t a b) (hb:Below B w w') (hg:g<B):Two w' g t a b:=(hb.block g hg).trans h
theorem two_new (w:World) (t:TypeId) (a b:Value):Two (w.alloc (.cells #[a,b] t)) w.heap.size t a b:=heap_alloc_new _ _
theorem Two.all {w:World} {g:Nat} {t:TypeId} {a b:Value} (h:Two w g t a b) (x:Value) :
  w.cell? ⟨g,0,none⟩=some a∧w.cell? ⟨g,1,none⟩=some b∧w.frozen? ⟨g,0,none⟩=false∧w.frozen? ⟨g,1,none⟩=false∧(w.setCell ⟨g,0,none⟩ x).cell? ⟨g,1,none⟩=some b∧(w.setCell ⟨g,0,none⟩ x).frozen? ⟨g,1,none⟩=false :=
 ⟨h.c0,h.c1,h.f0,h.f1,(h.s0 x).c1,(h.s0 x).f1⟩
theorem kep_set0 {w:World} {g i:Nat} (x:Value):Kep (fun b=>b≠g) w (w.setCell ⟨g,i,none⟩ x):=kep_set (fun h=>h rfl) x
theorem kep_set01 {w:World} {g:Nat} (x y:Value):Kep (fun b=>b≠g) w ((w.setCell ⟨g,0,none⟩ x).setCell ⟨g,1,none⟩ y):=(kep_set0 x).trans (kep_set0 y)
section
variable {P : Program} {fn : Func} {t : TypeId} {d : TypeDesc}
theorem results_box1 {p:Tmp} (h:fn.results=#[.cell p t]) (hu:P.underlying t=some d) (hd:(match d with | .struct _ | .array _ _=>true | _=>false)=true) (hi:(P.info? t).map (·.size)=some 2) (tmps:Array Value) (w:World) (g:Nat) (a b:Value)
  (hp:tmps.getD p undef=.pointer (some ⟨g,0,none⟩)) (hg:Two w g t a b):(results fn tmps).run P w=.ok (.agg #[a,b]) w:=by
 have hp':tmps[p]?.getD undef=.pointer (some ⟨g,0,none⟩):=by simpa using hp
 have hl:=run_loadVar_row (P:=P) w g t t _ (0,0) d hg hu hd hi
 simp [results,h,hp',asAddr,hl]
theorem results_box2 {p u:Tmp} (h:fn.results=#[.cell p t,.tmp u]) (hu:P.underlying t=some d) (hd:(match d with | .struct _ | .array _ _=>true | _=>false)=true) (hi:(P.info? t).map (·.size)=some 2) (tmps:Array Value) (w:World) (g:Nat) (a b:Value)
  (hp:tmps.getD p undef=.pointer (some ⟨g,0,none⟩)) (hg:Two w g t a b):(results fn tmps).run P w=.ok (.tuple #[.agg #[a,b],tmps.getD u undef]) w:=by
 have hp':tmps[p]?.getD undef=.pointer (some ⟨g,0,none⟩):=by simpa using hp
 have hl:=run_loadVar_row (P:=P) w g t t _ (0,0) d hg hu hd hi
 simp [results,h,hp',asAddr,hl]
theorem results_box3 {p u v:Tmp} (h:fn.results=#[.cell p t,.tmp u,.tmp v]) (hu:P.underlying t=some d) (hd:(match d with | .struct _ | .array _ _=>true | _=>false)=true) (hi:(P.info? t).map (·.size)=some 2) (tmps:Array Value) (w:World) (g:Nat) (a b:Value)
  (hp:tmps.getD p undef=.pointer (some ⟨g,0,none⟩)) (hg:Two w g t a b):(results fn tmps).run P w=.ok (.tuple #[.agg #[a,b],tmps.getD u undef,tmps.getD v undef]) w:=by
 have hp':tmps[p]?.getD undef=.pointer (some ⟨g,0,none⟩):=by simpa using hp
 have hl:=run_loadVar_row (P:=P) w g t t _ (0,0) d hg hu hd hi
 simp [results,h,hp',asAddr,hl]
end
end Go.Proofs.YtdfibahafilklaaGreatDoor.MM
namespace Go.Proofs.YtdfibahafilklaaGreatDoor.CR
open Go.RowKit MM CM
def Told (n:Nat) (w:World) (e:Ending) (w':World):Prop:=e=.returned (.int .u32 n)∧Below w.heap.size w w'
theorem flat_one (l:List UInt8):[l].flatten=l:=by simp
theorem sum_any (v:Value) (ls:List (List UInt8)) (w:World) (hr:PRow w v ls):Calls Tryz.prog 131 #[v] w (Told (sumL ls.flatten) w):=by
 have h:=goon_any 0 v ls w (by omega) hr
 unfold sumL Told
 generalize nextL 0 ls.flatten=F at *
 have H:=Lib.hid h
 clear h hr
 go_enter Tryz.func131,Tryz.ntmps131
 go_wp2_with fail
 refine H.out.mono ?_
 rintro e w1 ⟨rfl,hb⟩
 go_wp2_with fail
 go_ret
 exact ⟨rfl,hb⟩
theorem rnext_any (s:Nat) (v:Value) (l:List UInt8) (w:World) (hs:s<4294967296) (hr:BRow w v l) :
  Calls Tryz.prog 135 #[.int .u32 s,v] w fun e w'=>e=.returned (.int .u32 (nextL s l))∧w=w':=by
 obtain ⟨p,cap,rfl,hlc,hcm⟩:=hr.shape
 unfold maxLen at hcm
 obtain ⟨r,hrr⟩:∃ r,run (notB s) l=r:=⟨_,rfl⟩
 have HRes:Hid (nextL s l=notB r):=Lib.hid (by unfold nextL;rw [hrr])
 have HR0:Hid (run (notB s) (l.drop 0++[])=r):=Lib.hid (by rw [List.append_nil];exact hrr)
 obtain ⟨F,hF⟩:∃ F,nextL s l=F:=⟨_,rfl⟩
 rw [hF]
 rw [hF] at HRes
 have HX:=Lib.hid hr
 clear hrr hr hF
 have hu:=u32_unsigned
 have hn:=not_code hs
 have hnl:=notB_lt s
 go_enter Tryz.func135,Tryz.ntmps135
 go_wp2_with fail
 go_loop [0,5] (fun s i=>∃ j m:Nat,j≤l.length∧i=.int .i64 j∧s=.int .u32 m∧m<4294967296∧Hid (run m (l.drop j++[])=r)) (fun _ i=>l.length - (intOf i).toNat)
 case atStart=>exact ⟨0,notB s,by omega,rfl,rfl,hnl,HR0⟩
 case round =>
  obtain ⟨j,n,hj,rfl,rfl,hn3,H3⟩:=hrel
  clear HR0 hn hnl hs
  by_cases hjl:j<l.length
  ·obtain ⟨b2,off2,rfl,hbl2,hcell2⟩:=HX.out.at_ hjl
   have h4:=run_drop hjl H3.out
   generalize l[j]=c at h4 hcell2
   have hon:=on_any n c w hn3
   have hn2:=onB_lt hn3 c.toNat_lt
   generalize onB n c.toNat=n2 at *
   have H4:=Lib.hid h4
   have HON:=Lib.hid hon
   have hcb:=c.toNat_lt
   clear h4 H3 hon
   go_wp2_with fail
   refine HON.out.mono ?_
   rintro e w1 ⟨rfl,rfl⟩
   go_wp2_with fail
   go_round
   case rel=>exact ⟨j+1,n2,by omega,by go_num,rfl,hn2,H4⟩
   case measure=>simp [intOf];omega
  ·obtain rfl:j=l.length:=by omega
   have h4:=H3.out
   rw [List.drop_length] at h4
   have h5:n=r:=h4
   subst h5
   have hn:=not_code hn3
   clear h4 H3
   go_wp2_with fail
   have hF:=HRes.out
   subst hF
   go_ret
   exact ⟨rfl,rfl⟩
theorem rof_any (v:Value) (l:List UInt8) (w:World) (hr:BRow w v l):Calls Tryz.prog 96 #[v] w fun e w'=>e=.returned (.int .u32 (sumL l))∧w=w':=by
 have h:=rnext_any 0 v l w (by omega) hr
 unfold sumL
 generalize nextL 0 l=F at *
 have H:=Lib.hid h
 clear h hr
 go_enter Tryz.func96,Tryz.ntmps96
 go_wp2_with fail
 refine H.out.mono ?_
 rintro e w1 ⟨rfl,rfl⟩
 go_wp2_with fail
 go_ret
 exact ⟨rfl,rfl⟩
end Go.Proofs.YtdfibahafilklaaGreatDoor.CR
