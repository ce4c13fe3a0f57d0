import Derived.Test.YtdfibahafilklaaGreatDoorZC8
set_option maxRecDepth 100000
set_option maxHeartbeats 8000000
set_option linter.unusedVariables false
set_option linter.unusedSimpArgs false
namespace Go.Proofs.YtdfibahafilklaaGreatDoor.EM
open Go VM
open TK (nameL)
abbrev Fld:=List UInt8×List UInt8
abbrev Ev:=Int×List Fld
abbrev Bat:=Int×List Ev
def checkF:List Fld→Int
 | []=>0
 | f::r=>if nameL f.1=false then 100 else if 4096<f.2.length then 2 else checkF r
def checkE (e:Ev):Int:=if 16<e.2.length then 3 else checkF e.2
theorem checkF_next {fs:List Fld} {k:Nat} (hk:k<fs.length):checkF (fs.drop k)=if nameL fs[k].1=false then 100 else if 4096<fs[k].2.length then 2 else checkF (fs.drop (k+1)):=by
 rw [List.drop_eq_getElem_cons hk,checkF]
theorem checkF_ok:∀ {fs:List Fld},checkF fs=0↔∀ f∈fs,nameL f.1=true∧f.2.length≤4096
 | []=>by simp [checkF]
 | f::r=>by
   rw [checkF]
   have ih:=@checkF_ok r
   constructor
   ·intro h
    split at h
    ·omega
    ·split at h
     ·omega
     ·rename_i h1 h2
      intro g hg
      rcases List.mem_cons.1 hg with rfl | hg
      ·exact ⟨by simpa using h1,by omega⟩
      ·exact ih.1 h g hg
   ·intro h
    obtain ⟨h1,h2⟩:=h f (by simp)
    rw [if_neg (by simp [h1]),if_neg (by omega)]
    exact ih.2 fun g hg=>h g (by simp [hg])
theorem checkE_ok {e:Ev}:checkE e=0↔e.2.length≤16∧∀ f∈e.2,nameL f.1=true∧f.2.length≤4096:=by
 unfold checkE
 constructor
 ·intro h
  split at h
  ·omega
  ·exact ⟨by omega,checkF_ok.1 h⟩
 ·intro h
  rw [if_neg (by omega)]
  exact checkF_ok.2 h.2
theorem name_len {n:List UInt8} (h:nameL n=true):n.length≤32:=by
 unfold TK.nameL at h
 simp at h
 omega
def sizeF (fs:List Fld):Nat:=(fs.map fun f=>f.1.length+f.2.length).sum
def sizeE (e:Ev):Nat:=16+sizeF e.2
theorem sizeF_next {fs:List Fld} {k:Nat} (hk:k<fs.length):sizeF (fs.take (k+1))=sizeF (fs.take k)+fs[k].1.length+fs[k].2.length:=by
 unfold sizeF
 rw [List.take_succ_eq_append_getElem hk,List.map_append,List.sum_append]
 simp
 omega
theorem sizeF_of_ok:∀ {fs:List Fld},(∀ f∈fs,nameL f.1=true∧f.2.length≤4096)→sizeF fs≤4128*fs.length
 | [],_=>by simp [sizeF]
 | f::r,h=>by
   have h1:=h f (by simp)
   have h2:=name_len h1.1
   have ih:=sizeF_of_ok (fs:=r) fun g hg=>h g (by simp [hg])
   have e:sizeF (f::r)=f.1.length+f.2.length+sizeF r:=by simp [sizeF]
   rw [e,List.length_cons]
   omega
def bytesF (fs:List Fld):List UInt8:=fs.flatMap fun f=>textL f.1++textL f.2
theorem bytesF_cons (f:Fld) (r:List Fld):bytesF (f::r)=textL f.1++(textL f.2++bytesF r):=by simp [bytesF]
theorem bytesF_next {fs:List Fld} {k:Nat} (hk:k<fs.length):bytesF (fs.take (k+1))=bytesF (fs.take k)++(textL fs[k].1++textL fs[k].2):=by
 unfold bytesF
 rw [List.take_succ_eq_append_getElem hk,List.flatMap_append]
 simp
def bytesE (e:Ev):List UInt8:=intL e.1++bytesL e.2.length++bytesF e.2
theorem textL_len (s:List UInt8):(textL s).length≤10+s.length∧1≤(textL s).length:=by
 unfold textL
 rw [List.length_append]
 have:=bytesL_length s.length
 omega
theorem bytesF_len:∀ fs:List Fld,(bytesF fs).length≤20*fs.length+sizeF fs
 | []=>by simp [bytesF]
 | f::r=>by
   rw [bytesF_cons,List.length_append,List.length_append,List.length_cons]
   have h1:=(textL_len f.1).1
   have h2:=(textL_len f.2).1
   have h3:=bytesF_len r
   have e:sizeF (f::r)=f.1.length+f.2.length+sizeF r:=by simp [sizeF]
   omega
theorem bytesE_len (e:Ev):(bytesE e).length≤20+20*e.2.length+sizeF e.2∧1≤(bytesE e).length:=by
 unfold bytesE
 rw [List.length_append,List.length_append]
 have h1:=bytesL_length (zig e.1)
 have h2:=bytesL_length e.2.length
 have h3:=bytesF_len e.2
 unfold intL
 omega
def getFa:Nat→List Fld→List UInt8→Option (List Fld×List UInt8)
 | 0,acc,l=>some (acc,l)
 | k+1,acc,l =>
   if (getT l 32).2.2≠0∨(getT (l.drop (getT l 32).2.1) 4096).2.2≠0 then none
   else getFa k (acc++[((getT l 32).1,(getT (l.drop (getT l 32).2.1) 4096).1)]) ((l.drop (getT l 32).2.1).drop (getT (l.drop (getT l 32).2.1) 4096).2.1)
def rdE (l:List UInt8):Option (Ev×List UInt8) :=
 if (getI l).2.2≠0 then none
 else if (getL (l.drop (getI l).2.1)).2.2≠0∨16<(getL (l.drop (getI l).2.1)).1 then none
 else match getFa (getL (l.drop (getI l).2.1)).1 [] ((l.drop (getI l).2.1).drop (getL (l.drop (getI l).2.1)).2.1) with
  | none=>none
  | some (fs,r)=>some (((getI l).1,fs),r)
def getE (l:List UInt8):Option (Ev×List UInt8) :=
 match rdE l with
 | none=>none
 | some (e,r)=>if checkE e=0 then some (e,r) else none
theorem getT_back {l s:List UInt8} {m:Int} {k:Nat} (h:getT l m=(s,k,0)):textL s++l.drop k=l∧(s.length:Int)≤max 0 m∧k≤l.length:=by
 unfold getT at h
 split at h
 ·rename_i h1
  have:=congrArg (fun x=>x.2.2) h
  simp at this
  exact absurd this h1
 ·split at h
  ·simp at h
  ·split at h
   ·simp at h
   ·rename_i h1 h2 h3
    simp only [Prod.mk.injEq,and_true] at h
    obtain ⟨hs,hk⟩:=h
    have h0:(getL l).2.2=0:=by simpa using h1
    have hb:=getL_back (l:=l) (n:=(getL l).1) (k:=(getL l).2.1) (by rw [← h0])
    have hbd:=(getL_bounds l).2.1
    have hl:s.length=(getL l).1:=by rw [← hs,List.length_take,List.length_drop];omega
    refine ⟨?_,by rw [hl];omega,by omega⟩
    unfold textL
    rw [hl,← hk,List.append_assoc]
    have e:s++l.drop ((getL l).2.1+(getL l).1)=l.drop (getL l).2.1:=by
     rw [← hs,← List.drop_drop,List.take_append_drop]
    rw [e]
    exact hb
theorem getFa_put:∀ (fs acc:List Fld) (r:List UInt8),(∀ f∈fs,f.1.length≤32∧f.2.length≤4096)→getFa fs.length acc (bytesF fs++r)=some (acc++fs,r)
 | [],acc,r,_=>by simp [getFa,bytesF]
 | f::fs,acc,r,h=>by
   obtain ⟨h1,h2⟩:=h f (by simp)
   rw [List.length_cons,getFa,bytesF_cons,List.append_assoc,List.append_assoc,getT_put f.1 (by omega) 32 (by omega)]
   dsimp only
   rw [List.drop_left,getT_put f.2 (by omega) 4096 (by omega)]
   dsimp only
   rw [List.drop_left,if_neg (by simp)]
   rw [getFa_put fs (acc++[(f.1,f.2)]) r fun g hg=>h g (by simp [hg])]
   simp
theorem getFa_back:∀ (k:Nat) (acc:List Fld) (l:List UInt8) (fs:List Fld) (r:List UInt8),getFa k acc l=some (fs,r) →
  ∃ gs,fs=acc++gs∧gs.length=k∧bytesF gs++r=l∧∀ f∈gs,f.1.length≤32∧f.2.length≤4096
 | 0,acc,l,fs,r,h=>by
   simp only [getFa,Option.some.injEq,Prod.mk.injEq] at h
   exact ⟨[],by simp [h.1],rfl,by simp [bytesF,h.2],by simp⟩
 | k+1,acc,l,fs,r,h=>by
   rw [getFa] at h
   split at h
   ·cases h
   ·rename_i hne
    obtain ⟨s,k1,e1,hs⟩:∃ s k1 e1,getT l 32=(s,k1,e1):=⟨_,_,_,rfl⟩
    rw [hs] at h hne
    dsimp only at h hne
    obtain ⟨t,k2,e2,ht⟩:∃ t k2 e2,getT (l.drop k1) 4096=(t,k2,e2):=⟨_,_,_,rfl⟩
    rw [ht] at h hne
    dsimp only at h hne
    obtain ⟨rfl,rfl⟩:e1=0∧e2=0:=by constructor<;>(apply Classical.byContradiction;intro hc;exact hne (by simp [hc]))
    obtain ⟨b1,b2,_⟩:=getT_back hs
    obtain ⟨c1,c2,_⟩:=getT_back ht
    obtain ⟨gs,g1,g2,g3,g4⟩:=getFa_back k _ _ _ _ h
    refine ⟨(s,t)::gs,by rw [g1];simp,by simp [g2],?_,?_⟩
    ·rw [bytesF_cons,List.append_assoc,List.append_assoc,g3]
     dsimp only
     rw [c1,b1]
    ·intro f hf
     rcases List.mem_cons.1 hf with rfl | hf
     ·exact ⟨by show s.length≤32;omega,by show t.length≤4096;omega⟩
     ·exact g4 f hf
def FitE (e:Ev):Prop := -9223372036854775808≤e.1∧e.1≤9223372036854775807
theorem rdE_put {e:Ev} (hf:FitE e) (hn:e.2.length≤16) (h:∀ f∈e.2,f.1.length≤32∧f.2.length≤4096) (r:List UInt8):rdE (bytesE e++r)=some (e,r):=by
 unfold rdE bytesE
 rw [List.append_assoc,List.append_assoc,getI_put e.1 hf.1 hf.2]
 dsimp only
 rw [List.drop_left,getL_put _ (by omega)]
 dsimp only
 rw [List.drop_left,if_neg (by simp),if_neg (by simp;omega),getFa_put e.2 [] r h]
 simp
theorem ok_lens {e:Ev} (h:checkE e=0):e.2.length≤16∧∀ f∈e.2,f.1.length≤32∧f.2.length≤4096:=by
 obtain ⟨h1,h2⟩:=checkE_ok.1 h
 exact ⟨h1,fun f hf=>⟨name_len (h2 f hf).1,(h2 f hf).2⟩⟩
theorem getE_put {e:Ev} (hf:FitE e) (h:checkE e=0) (r:List UInt8):getE (bytesE e++r)=some (e,r):=by
 obtain ⟨h1,h2⟩:=ok_lens h
 unfold getE
 rw [rdE_put hf h1 h2]
 simp [h]
theorem rdE_back {l r:List UInt8} {e:Ev} (h:rdE l=some (e,r)):bytesE e++r=l∧FitE e∧e.2.length≤16:=by
 unfold rdE at h
 split at h
 ·cases h
 ·split at h
  ·cases h
  ·rename_i h1 h2
   have h10:(getI l).2.2=0:=by simpa using h1
   obtain ⟨n,k1,e1,hI⟩:∃ n k1 e1,getI l=(n,k1,e1):=⟨_,_,_,rfl⟩
   rw [hI] at h h2 h10
   dsimp only at h h2 h10
   subst h10
   obtain ⟨m,k2,e2,hL⟩:∃ m k2 e2,getL (l.drop k1)=(m,k2,e2):=⟨_,_,_,rfl⟩
   rw [hL] at h h2
   dsimp only at h h2
   have h20:e2=0∧m≤16:=by constructor<;>(apply Classical.byContradiction;intro hc;exact h2 (by first | exact .inl hc | exact .inr (by omega)))
   obtain ⟨rfl,hm⟩:=h20
   cases hg:getFa m [] ((l.drop k1).drop k2) with
   | none=>rw [hg] at h;cases h
   | some p =>
     obtain ⟨fs,r2⟩:=p
     rw [hg] at h
     simp only [Option.some.injEq,Prod.mk.injEq] at h
     obtain ⟨rfl,rfl⟩:=h
     obtain ⟨gs,g1,g2,g3,g4⟩:=getFa_back _ _ _ _ _ hg
     rw [List.nil_append] at g1
     subst g1
     have hb1:intL n++l.drop k1=l:=by
      unfold getI at hI
      simp only [Prod.mk.injEq] at hI
      have hz:=getL_back (l:=l) (n:=(getL l).1) (k:=k1) (by rw [← hI.2.1,← hI.2.2])
      have hzz:zig n=(getL l).1:=by
       rw [← hI.1]
       generalize (getL l).1=u
       unfold zig zag
       split<;>split<;>omega
      unfold intL
      rw [hzz]
      exact hz
     have hb2:=getL_back hL
     refine ⟨?_,?_,by show fs.length≤16;omega⟩
     ·unfold bytesE
      dsimp only
      rw [List.append_assoc,List.append_assoc,g3,g2,hb2,hb1]
     ·have hbd:=(getI_bounds l).1
      rw [hI] at hbd
      exact hbd
theorem getE_back {l r:List UInt8} {e:Ev} (h:getE l=some (e,r)):bytesE e++r=l∧FitE e∧checkE e=0:=by
 unfold getE at h
 cases hr:rdE l with
 | none=>rw [hr] at h;cases h
 | some p =>
   obtain ⟨e',r'⟩:=p
   rw [hr] at h
   dsimp only at h
   split at h
   ·simp only [Option.some.injEq,Prod.mk.injEq] at h
    obtain ⟨rfl,rfl⟩:=h
    exact ⟨(rdE_back hr).1,(rdE_back hr).2.1,by assumption⟩
   ·cases h
def checkEs:List Ev→Int
 | []=>0
 | e::r=>if checkE e≠0 then checkE e else checkEs r
theorem checkEs_next {es:List Ev} {k:Nat} (hk:k<es.length):checkEs (es.drop k)=if checkE es[k]≠0 then checkE es[k] else checkEs (es.drop (k+1)):=by
 rw [List.drop_eq_getElem_cons hk,checkEs]
theorem checkEs_ok:∀ {es:List Ev},checkEs es=0↔∀ e∈es,checkE e=0
 | []=>by simp [checkEs]
 | e::r=>by
   rw [checkEs]
   have ih:=@checkEs_ok r
   constructor
   ·intro h
    split at h
    ·rename_i h1;exact absurd h h1
    ·rename_i h1
     intro g hg
     rcases List.mem_cons.1 hg with rfl | hg
     ·simpa using h1
     ·exact ih.1 h g hg
   ·intro h
    rw [if_neg (by simpa using h e (by simp))]
    exact ih.2 fun g hg=>h g (by simp [hg])
def sizeB (es:List Ev):Nat:=(es.map sizeE).sum
theorem sizeB_next {es:List Ev} {k:Nat} (hk:k<es.length):sizeB (es.take (k+1))=sizeB (es.take k)+sizeE es[k]:=by
 unfold sizeB
 rw [List.take_succ_eq_append_getElem hk,List.map_append,List.sum_append]
 simp
def checkB (b:Bat):Int :=
 if b.2.length=0 then 1 else if 64<b.2.length then 3 else if checkEs b.2≠0 then checkEs b.2
 else if 65536<sizeB b.2 then 2 else if b.1<1∨1099511627776 - ((b.2.length:Int) - 1)<b.1 then 5 else 0
theorem checkB_ok {b:Bat} (h:checkB b=0):1≤b.2.length∧b.2.length≤64∧(∀ e∈b.2,checkE e=0)∧sizeB b.2≤65536∧1≤b.1∧b.1≤1099511627776 - ((b.2.length:Int) - 1):=by
 unfold checkB at h
 split at h
 ·omega
 ·split at h
  ·omega
  ·split at h
   ·rename_i h3;exact absurd h h3
   ·split at h
    ·omega
    ·split at h
     ·omega
     ·rename_i h1 h2 h3 h4 h5
      exact ⟨by omega,by omega,checkEs_ok.1 (by simpa using h3),by omega,by omega,by omega⟩
def bytesB (es:List Ev):List UInt8:=es.flatMap bytesE
theorem bytesB_cons (e:Ev) (r:List Ev):bytesB (e::r)=bytesE e++bytesB r:=by simp [bytesB]
theorem bytesB_next {es:List Ev} {k:Nat} (hk:k<es.length):bytesB (es.take (k+1))=bytesB (es.take k)++bytesE es[k]:=by
 unfold bytesB
 rw [List.take_succ_eq_append_getElem hk,List.flatMap_append]
 simp
def encB (b:Bat):List UInt8:=bytesL b.1.toNat++bytesL b.2.length++bytesB b.2
def getBa:Nat→List Ev→List UInt8→Option (List Ev×List UInt8)
 | 0,acc,l=>some (acc,l)
 | k+1,acc,l=>match getE l with
   | none=>none
   | some (e,r)=>getBa k (acc++[e]) r
theorem getBa_put:∀ (es acc:List Ev) (r:List UInt8),(∀ e∈es,FitE e∧checkE e=0)→getBa es.length acc (bytesB es++r)=some (acc++es,r)
 | [],acc,r,_=>by simp [getBa,bytesB]
 | e::es,acc,r,h=>by
   obtain ⟨h1,h2⟩:=h e (by simp)
   rw [List.length_cons,getBa,bytesB_cons,List.append_assoc,getE_put h1 h2]
   dsimp only
   rw [getBa_put es _ r fun g hg=>h g (by simp [hg])]
   simp
theorem getBa_back:∀ (k:Nat) (acc:List Ev) (l:List UInt8) (es:List Ev) (r:List UInt8),getBa k acc l=some (es,r) →
  ∃ gs,es=acc++gs∧gs.length=k∧bytesB gs++r=l∧∀ e∈gs,FitE e∧checkE e=0
 | 0,acc,l,es,r,h=>by
   simp only [getBa,Option.some.injEq,Prod.mk.injEq] at h
   exact ⟨[],by simp [h.1],rfl,by simp [bytesB,h.2],by simp⟩
 | k+1,acc,l,es,r,h=>by
   rw [getBa] at h
   cases hg:getE l with
   | none=>rw [hg] at h;cases h
   | some p =>
     obtain ⟨e,r1⟩:=p
     rw [hg] at h
     dsimp only at h
     obtain ⟨b1,b2,b3⟩:=getE_back hg
     obtain ⟨gs,g1,g2,g3,g4⟩:=getBa_back k _ _ _ _ h
     refine ⟨e::gs,by rw [g1];simp,by simp [g2],by rw [bytesB_cons,List.append_assoc,g3,b1],?_⟩
     intro f hf
     rcases List.mem_cons.1 hf with rfl | hf
     ·exact ⟨b2,b3⟩
     ·exact g4 f hf
def rdB (l:List UInt8):Option (Bat×List UInt8) :=
 if (getL l).2.2≠0∨1099511627776<(getL l).1 then none
 else if (getL (l.drop (getL l).2.1)).2.2≠0∨64<(getL (l.drop (getL l).2.1)).1 then none
 else match getBa (getL (l.drop (getL l).2.1)).1 [] ((l.drop (getL l).2.1).drop (getL (l.drop (getL l).2.1)).2.1) with
  | none=>none
  | some (es,r)=>some ((((getL l).1:Nat),es),r)
def decB (l:List UInt8):Option Bat :=
 match rdB l with
 | none=>none
 | some (b,r)=>if 0<r.length∨checkB b≠0 then none else some b
theorem rdB_put {b:Bat} (hf:∀ e∈b.2,FitE e) (h:checkB b=0) (r:List UInt8):rdB (encB b++r)=some (b,r):=by
 obtain ⟨h1,h2,h3,h4,h5,h6⟩:=checkB_ok h
 unfold rdB encB
 rw [List.append_assoc,List.append_assoc,getL_put _ (by omega)]
 dsimp only
 rw [List.drop_left,getL_put _ (by omega)]
 dsimp only
 rw [List.drop_left,if_neg (by simp;omega),if_neg (by simp;omega),getBa_put b.2 [] r fun e he=>⟨hf e he,h3 e he⟩]
 simp only [List.nil_append,Option.some.injEq,Prod.mk.injEq,and_true]
 rw [show ((b.1.toNat:Nat):Int)=b.1 by omega]
theorem decB_back {l:List UInt8} {b:Bat} (h:decB l=some b):encB b=l∧checkB b=0∧∀ e∈b.2,FitE e:=by
 unfold decB at h
 cases hr:rdB l with
 | none=>rw [hr] at h;cases h
 | some p =>
   obtain ⟨b',r⟩:=p
   rw [hr] at h
   dsimp only at h
   split at h
   ·cases h
   ·rename_i hn
    have hr0:r=[]:=List.eq_nil_of_length_eq_zero (by omega)
    have hc:checkB b'=0:=by apply Classical.byContradiction;intro hc;exact hn (.inr hc)
    simp only [Option.some.injEq] at h
    subst h
    subst hr0
    unfold rdB at hr
    split at hr
    ·cases hr
    ·split at hr
     ·cases hr
     ·rename_i h1 h2
      obtain ⟨m,k1,e1,hL⟩:∃ m k1 e1,getL l=(m,k1,e1):=⟨_,_,_,rfl⟩
      rw [hL] at hr h1 h2
      dsimp only at hr h1 h2
      obtain ⟨q,k2,e2,hL2⟩:∃ q k2 e2,getL (l.drop k1)=(q,k2,e2):=⟨_,_,_,rfl⟩
      rw [hL2] at hr h2
      dsimp only at hr h2
      have he1:e1=0:=by apply Classical.byContradiction;intro hc;exact h1 (.inl hc)
      have he2:e2=0:=by apply Classical.byContradiction;intro hc;exact h2 (.inl hc)
      subst he1 he2
      cases hg:getBa q [] ((l.drop k1).drop k2) with
      | none=>rw [hg] at hr;cases hr
      | some p =>
        obtain ⟨es,r2⟩:=p
        rw [hg] at hr
        simp only [Option.some.injEq,Prod.mk.injEq] at hr
        obtain ⟨rfl,rfl⟩:=hr
        obtain ⟨gs,g1,g2,g3,g4⟩:=getBa_back _ _ _ _ _ hg
        rw [List.nil_append] at g1
        subst g1
        have hb1:=getL_back hL
        have hb2:=getL_back hL2
        refine ⟨?_,hc,fun e he=>(g4 e he).1⟩
        unfold encB
        dsimp only
        rw [List.append_nil] at g3
        rw [List.append_assoc,g3,g2,hb2,Int.toNat_natCast,hb1]
theorem decB_put {b:Bat} (hf:∀ e∈b.2,FitE e) (h:checkB b=0):decB (encB b)=some b:=by
 have:=rdB_put hf h []
 rw [List.append_nil] at this
 unfold decB
 rw [this]
 simp [h]
end Go.Proofs.YtdfibahafilklaaGreatDoor.EM
