import Derived.Test.YtdijhifdjbnkfaaGreatZB4
import Derived.Test.YtdijhifdjbnkfaaGreatZB1
set_option linter.unusedVariables false
set_option linter.unusedSimpArgs false
namespace Go.Proofs.YtdijhifdjbnkfaaGreat.DM
open Go Go.Proofs.YtdijhifdjbnkfaaGreat.VM
open Go.Proofs.YtdijhifdjbnkfaaGreat.EM (lessL lessL_irr lessL_trans lessL_total lessL_ne getT_back)
abbrev Ent:=List UInt8×(Int×(Int×Int))
def placeOk (z:Int):Bool:=decide (0≤z)&&decide (z≤67108864)
def okX (x:Ent):Bool:=decide (1≤x.1.length)&&decide (x.1.length≤65)&&placeOk x.2.1&&placeOk x.2.2.1&&placeOk x.2.2.2
theorem placeOk_iff {z:Int}:placeOk z=true↔0≤z∧z≤67108864:=by simp [placeOk]
theorem okX_iff {x:Ent}:okX x=true↔(1≤x.1.length∧x.1.length≤65)∧(0≤x.2.1∧x.2.1≤67108864)∧(0≤x.2.2.1∧x.2.2.1≤67108864)∧(0≤x.2.2.2∧x.2.2.2≤67108864):=by
 unfold okX
 simp only [Bool.and_eq_true,decide_eq_true_eq,placeOk_iff]
 constructor
 ·rintro ⟨⟨⟨⟨h1,h2⟩,h3⟩,h4⟩,h5⟩;exact ⟨⟨h1,h2⟩,h3,h4,h5⟩
 ·rintro ⟨⟨h1,h2⟩,h3,h4,h5⟩;exact ⟨⟨⟨⟨h1,h2⟩,h3⟩,h4⟩,h5⟩
def riseO (p:Option (List UInt8)) (t:List UInt8):Bool:=match p with
 | none=>true
 | some q=>lessL q t
def areR:Option (List UInt8)→List Ent→Bool
 | _,[]=>true
 | p,x::r=>okX x&&riseO p x.1&&areR (some x.1) r
theorem areR_cons (p:Option (List UInt8)) (x:Ent) (r:List Ent):areR p (x::r)=(okX x&&riseO p x.1&&areR (some x.1) r):=by cases p<;>rfl
def areD (l:List Ent):Bool:=decide (l.length≤262144)&&areR none l
def sharedL:List UInt8→List UInt8→Nat
 | a::x,b::y=>if a=b then sharedL x y+1 else 0
 | _,_=>0
theorem sharedL_le:∀ x y,sharedL x y≤x.length∧sharedL x y≤y.length
 | [],_=>by simp [sharedL]
 | _::_,[]=>by simp [sharedL]
 | a::x,b::y=>by
   rw [sharedL]
   have:=sharedL_le x y
   split<;>simp<;>omega
theorem sharedL_take:∀ x y:List UInt8,x.take (sharedL x y)=y.take (sharedL x y)
 | [],_=>by simp [sharedL]
 | _::_,[]=>by simp [sharedL]
 | a::x,b::y=>by
   rw [sharedL]
   split
   ·rename_i h;subst h;simp [sharedL_take x y]
   ·rfl
theorem sharedL_at:∀ {x y:List UInt8} {k:Nat},k≤x.length→k≤y.length→(∀ i,i<k→x[i]? = y[i]?)→(k<x.length→k<y.length→x[k]? ≠ y[k]?)→sharedL x y=k
 | [],_,k,h,_,_,_=>by have:k=0:=(by simpa using h);subst this;simp [sharedL]
 | _::_,[],k,_,h,_,_=>by have:k=0:=(by simpa using h);subst this;simp [sharedL]
 | a::x,b::y,0,_,_,_,h=>by
   have:=h (by simp) (by simp)
   rw [sharedL,if_neg (fun e=>this (by simp [e]))]
 | a::x,b::y,k+1,h1,h2,h3,h4=>by
   have h0:=h3 0 (by omega)
   have e:a=b:=by simpa using h0
   rw [sharedL,if_pos e,sharedL_at (k:=k) (by simpa using h1) (by simpa using h2) (fun i hi=>by simpa using h3 (i+1) (by omega)) (fun g1 g2=>by simpa using h4 (by simpa using g1) (by simpa using g2))]
def entB (ahead:List UInt8) (x:Ent):List UInt8:=bytesL (sharedL ahead x.1)++(textL (x.1.drop (sharedL ahead x.1))++(bytesL x.2.1.toNat++(bytesL x.2.2.1.toNat++bytesL x.2.2.2.toNat)))
def blockB:List UInt8→List Ent→List UInt8
 | _,[]=>[]
 | ahead,x::r=>entB ahead x++blockB x.1 r
theorem blockB_snoc:∀ (ahead:List UInt8) (l:List Ent) (x:Ent),blockB ahead (l++[x])=blockB ahead l++entB ((l.getLast?.map (·.1)).getD ahead) x
 | ahead,[],x=>by simp [blockB]
 | ahead,y::l,x=>by
   rw [List.cons_append,blockB,blockB,blockB_snoc y.1 l x,List.append_assoc]
   cases l<;>simp [List.getLast?_cons]
def chunk (l:List Ent) (j:Nat):List Ent:=(l.drop (16*j)).take 16
def chunkB (l:List Ent) (j:Nat):List UInt8:=bytesL (blockB [] (chunk l j)).length++blockB [] (chunk l j)
def chunksN (l:List Ent):Nat:=(l.length+15) / 16
def chunksB (l:List Ent) (j:Nat):List UInt8:=((List.range (chunksN l)).drop j).flatMap (chunkB l)
theorem chunksB_next {l:List Ent} {j:Nat} (h:j<chunksN l):chunksB l j=chunkB l j++chunksB l (j+1):=by
 unfold chunksB
 rw [List.drop_eq_getElem_cons (by simpa using h),List.flatMap_cons]
 simp
def encD (l:List Ent):List UInt8:=bytesL l.length++chunksB l 0
def getN (l:List UInt8) (most:Nat):Option (Nat×List UInt8):=if (getL l).2.2≠0∨most<(getL l).1 then none else some ((getL l).1,l.drop (getL l).2.1)
theorem getN_put {n most:Nat} (h:n≤most) (hn:n<18446744073709551616) (r:List UInt8):getN (bytesL n++r) most=some (n,r):=by
 unfold getN
 rw [getL_put n hn r]
 dsimp only
 rw [List.drop_left,if_neg (by simp;omega)]
def rdX (ahead:List UInt8) (l:List UInt8):Option (Ent×List UInt8) :=
 match getN l ahead.length with
 | none=>none
 | some (k,l1) =>
   if (getT l1 65).2.2≠0 then none
   else match getN (l1.drop (getT l1 65).2.1) 67108864 with
    | none=>none
    | some (o,l2)=>match getN l2 67108864 with
      | none=>none
      | some (m,l3)=>match getN l3 67108864 with
        | none=>none
        | some (n,l4)=>some ((ahead.take k++(getT l1 65).1,((o:Int),((m:Int),(n:Int)))),l4)
theorem rdX_put {ahead:List UInt8} {x:Ent} (h:okX x=true) (hl:ahead.length≤65) (r:List UInt8):rdX ahead (entB ahead x++r)=some (x,r):=by
 obtain ⟨⟨h1,h2⟩,h3,h4,h5⟩:=okX_iff.1 h
 have hs:=sharedL_le ahead x.1
 unfold rdX entB
 simp only [List.append_assoc]
 rw [getN_put hs.1 (by omega)]
 dsimp only
 rw [getT_put (x.1.drop (sharedL ahead x.1)) (by rw [List.length_drop];omega) 65 (by rw [List.length_drop];omega)]
 dsimp only
 rw [if_neg (by simp),List.drop_left,getN_put (by omega) (by omega)]
 dsimp only
 rw [getN_put (by omega) (by omega)]
 dsimp only
 rw [getN_put (by omega) (by omega)]
 dsimp only
 rw [sharedL_take,List.take_append_drop]
 obtain ⟨t,o,m,n⟩:=x
 dsimp only at h3 h4 h5 ⊢
 rw [show ((o.toNat:Nat):Int)=o by omega,show ((m.toNat:Nat):Int)=m by omega,show ((n.toNat:Nat):Int)=n by omega]
def parseD:Nat→Nat→List UInt8→List Ent→List UInt8→Option (List Ent)
 | 0,_,_,acc,_=>some acc
 | f+1,i,ahead,acc,l =>
   if i%16=0 then
    match getN l 1073741824 with
    | none=>none
    | some (_,l1)=>match rdX [] l1 with
      | none=>none
      | some (x,r)=>parseD f (i+1) x.1 (acc++[x]) r
   else match rdX ahead l with
    | none=>none
    | some (x,r)=>parseD f (i+1) x.1 (acc++[x]) r
def tailB (l:List Ent) (i:Nat):List UInt8 :=
 if i%16=0 then chunksB l (i / 16) else blockB ((l.getD (i - 1) ([],0,0,0)).1) ((l.drop i).take (16 - i%16))++chunksB l (i / 16+1)
theorem blockB_take {l:List Ent} {i k:Nat} (hi:i<l.length) (hk:0<k) (ahead:List UInt8):blockB ahead ((l.drop i).take k)=entB ahead l[i]++blockB l[i].1 ((l.drop (i+1)).take (k - 1)):=by
 obtain ⟨k,rfl⟩:∃ j,k=j+1:=⟨k - 1,by omega⟩
 rw [List.drop_eq_getElem_cons hi,List.take_succ_cons,blockB]
 simp
theorem tail_rest {l:List Ent} {i:Nat} (hi:i<l.length):blockB l[i].1 ((l.drop (i+1)).take (15 - i%16))++chunksB l (i / 16+1)=tailB l (i+1):=by
 unfold tailB
 by_cases h:(i+1)%16=0
 ·rw [if_pos h]
  have e:15 - i%16=0:=by omega
  rw [e,List.take_zero,blockB,List.nil_append]
  congr 1
  omega
 ·rw [if_neg h]
  have e1:(i+1) / 16=i / 16:=by omega
  have e2:16 - (i+1)%16=15 - i%16:=by omega
  rw [e1,e2]
  congr 2
  simp [List.getD,hi]
theorem tailB_mid {l:List Ent} {i:Nat} (hi:i<l.length) (h:¬ i%16=0):tailB l i=entB (l.getD (i - 1) ([],0,0,0)).1 l[i]++tailB l (i+1):=by
 conv=>lhs;unfold tailB
 rw [if_neg h,blockB_take hi (by omega),List.append_assoc,show 16 - i%16 - 1=15 - i%16 by omega,tail_rest hi]
theorem tailB_head {l:List Ent} {i:Nat} (hi:i<l.length) (h:i%16=0):tailB l i=bytesL (blockB [] (chunk l (i / 16))).length++(entB [] l[i]++tailB l (i+1)):=by
 conv=>lhs;unfold tailB
 rw [if_pos h,chunksB_next (by unfold chunksN;omega)]
 unfold chunkB
 rw [List.append_assoc]
 congr 1
 unfold chunk
 rw [show 16*(i / 16)=i by omega,blockB_take hi (by omega),List.append_assoc,← tail_rest hi,show 16 - 1=15 - i%16 by omega]
theorem entB_len {ahead:List UInt8} {x:Ent} (h:okX x=true):(entB ahead x).length≤115:=by
 obtain ⟨⟨h1,h2⟩,_⟩:=okX_iff.1 h
 unfold entB
 simp only [List.length_append]
 have b1:=bytesL_length (sharedL ahead x.1)
 have b2:=bytesL_length x.2.1.toNat
 have b3:=bytesL_length x.2.2.1.toNat
 have b4:=bytesL_length x.2.2.2.toNat
 have b5:=(EM.textL_len (x.1.drop (sharedL ahead x.1))).1
 rw [List.length_drop] at b5
 omega
theorem blockB_len:∀ (l:List Ent) (ahead:List UInt8),(∀ x∈l,okX x=true)→(blockB ahead l).length≤115*l.length
 | [],_,_=>by simp [blockB]
 | x::r,ahead,h=>by
   rw [blockB,List.length_append,List.length_cons]
   have h1:=entB_len (ahead:=ahead) (h x (by simp))
   have h2:=blockB_len r x.1 fun y hy=>h y (by simp [hy])
   omega
theorem parseD_put {l:List Ent} (h:∀ x∈l,okX x=true):∀ (f i:Nat) (ahead:List UInt8),i+f=l.length→(¬ i%16=0→ahead=(l.getD (i - 1) ([],0,0,0)).1)→parseD f i ahead (l.take i) (tailB l i)=some l
 | 0,i,ahead,hf,_=>by
   rw [parseD,List.take_of_length_le (by omega)]
 | f+1,i,ahead,hf,ha=>by
   have hi:i<l.length:=by omega
   have hx:=h l[i] (List.getElem_mem hi)
   have hnext:∀ a,a=l[i].1→parseD f (i+1) a (l.take i++[l[i]]) (tailB l (i+1))=some l:=fun a e=>by
    rw [← List.take_succ_eq_append_getElem hi]
    refine parseD_put h f (i+1) a (by omega) fun _ => ?_
    rw [e]
    simp [List.getD,hi]
   rw [parseD]
   by_cases hm:i%16=0
   ·have hbl:(blockB [] (chunk l (i / 16))).length≤1840:=by
     have:=blockB_len (chunk l (i / 16)) [] fun x hx=>h x (List.mem_of_mem_drop (List.mem_of_mem_take hx))
     have h16:(chunk l (i / 16)).length≤16:=by unfold chunk;rw [List.length_take];omega
     omega
    rw [if_pos hm,tailB_head hi hm,getN_put (by omega) (by omega)]
    dsimp only
    rw [rdX_put hx (by simp)]
    exact hnext _ rfl
   ·have hp:(l.getD (i - 1) ([],0,0,0)).1.length≤65:=by
     have hi2:i - 1<l.length:=by omega
     have e:l.getD (i - 1) ([],0,0,0)=l[i - 1]:=by simp [List.getD,hi2]
     rw [e]
     exact (okX_iff.1 (h l[i - 1] (List.getElem_mem hi2))).1.2
    rw [if_neg hm,tailB_mid hi hm,ha hm,rdX_put hx hp]
    exact hnext _ rfl
def rdD (b:List UInt8):Option (List Ent):=match getN b 262144 with
 | none=>none
 | some (n,r)=>parseD n 0 [] [] r
def decD (b:List UInt8):Option (List Ent):=match rdD b with
 | none=>none
 | some l=>if areD l=true∧encD l=b then some l else none
theorem areR_all:∀ {l:List Ent} {p:Option (List UInt8)},areR p l=true→∀ x∈l,okX x=true
 | [],_,_=>by simp
 | x::r,p,h=>by
   rw [areR_cons,Bool.and_eq_true,Bool.and_eq_true] at h
   intro y hy
   rcases List.mem_cons.1 hy with rfl | hy
   ·exact h.1.1
   ·exact areR_all h.2 y hy
theorem areD_all {l:List Ent} (h:areD l=true):l.length≤262144∧∀ x∈l,okX x=true:=by
 unfold areD at h
 rw [Bool.and_eq_true,decide_eq_true_eq] at h
 exact ⟨h.1,areR_all h.2⟩
theorem rdD_put {l:List Ent} (h:areD l=true):rdD (encD l)=some l:=by
 obtain ⟨h1,h2⟩:=areD_all h
 unfold rdD encD
 rw [getN_put h1 (by omega)]
 have:=parseD_put h2 l.length 0 [] (by omega) (fun hn=>absurd rfl hn)
 simpa [tailB] using this
theorem decD_put {l:List Ent} (h:areD l=true):decD (encD l)=some l:=by
 unfold decD
 rw [rdD_put h]
 simp [h]
theorem decD_back {b:List UInt8} {l:List Ent} (h:decD b=some l):areD l=true∧encD l=b:=by
 unfold decD at h
 split at h
 ·cases h
 ·split at h
  ·rename_i hc
   obtain rfl:=Option.some.inj h
   exact hc
  ·cases h
theorem decD_iff {b:List UInt8} {l:List Ent}:decD b=some l↔areD l=true∧encD l=b:=⟨decD_back,fun ⟨h1,h2⟩=>by rw [← h2];exact decD_put h1⟩
end Go.Proofs.YtdijhifdjbnkfaaGreat.DM
namespace Go.Proofs.YtdijhifdjbnkfaaGreat.SM
open Go Go.Proofs.YtdijhifdjbnkfaaGreat.VM
open Go.Proofs.YtdijhifdjbnkfaaGreat.EM (Fld Ev checkE FitE bytesE bytesE_len getE getE_put getE_back ok_lens sizeF sizeF_of_ok checkE_ok)
open Go.Proofs.YtdijhifdjbnkfaaGreat.DM (getN getN_put)
abbrev Doc:=Int×Ev
def noDoc:Doc:=(0,(0,[]))
def okS (last:Int) (d:Doc):Bool:=decide (last<d.1)&&decide (d.1≤1099511627776)&&decide (checkE d.2=0)
theorem okS_iff {last:Int} {d:Doc}:okS last d=true↔last<d.1∧d.1≤1099511627776∧checkE d.2=0:=by
 unfold okS
 simp only [Bool.and_eq_true,decide_eq_true_eq,and_assoc]
def isR:Int→List Doc→Bool
 | _,[]=>true
 | last,d::r=>okS last d&&isR d.1 r
def isS (l:List Doc):Bool:=decide (l.length≤65536)&&isR 0 l
theorem isR_step {l:List Doc} {last:Int} {k:Nat} (hk:k<l.length):isR last (l.drop k)=(okS last l[k]&&isR l[k].1 (l.drop (k+1))):=by
 rw [List.drop_eq_getElem_cons hk,isR]
theorem isR_end (l:List Doc) (last:Int):isR last (l.drop l.length)=true:=by rw [List.drop_length,isR]
def lastS (l:List Doc):Nat→Int
 | 0=>0
 | k+1=>(l.getD k noDoc).1
theorem lastS_next {l:List Doc} {k:Nat} (hk:k<l.length):lastS l (k+1)=l[k].1:=by simp [lastS,List.getD,hk]
theorem isR_at:∀ {l:List Doc} {last:Int},isR last l=true→∀ (k:Nat) (hk:k<l.length),okS (if k=0 then last else lastS l k) l[k]=true
 | [],_,_,k,hk=>by simp at hk
 | d::r,last,h,0,hk=>by
   rw [isR,Bool.and_eq_true] at h
   exact h.1
 | d::r,last,h,k+1,hk=>by
   rw [isR,Bool.and_eq_true] at h
   have ih:=isR_at h.2 k (by simpa using hk)
   have e:(if k=0 then d.1 else lastS r k)=(if k+1=0 then last else lastS (d::r) (k+1)):=by
    cases k with
    | zero=>simp [lastS]
    | succ k=>simp [lastS]
   rw [← e]
   exact ih
theorem isS_iff {l:List Doc}:isS l=true↔l.length≤65536∧isR 0 l=true:=by
 unfold isS
 rw [Bool.and_eq_true,decide_eq_true_eq]
theorem isS_at {l:List Doc} (h:isS l=true) {k:Nat} (hk:k<l.length):lastS l k<l[k].1∧l[k].1≤1099511627776∧checkE l[k].2=0:=by
 have:=isR_at (isS_iff.1 h).2 k hk
 have e:(if k=0 then 0 else lastS l k)=lastS l k:=by
  cases k with
  | zero=>simp [lastS]
  | succ k=>simp
 rw [e] at this
 exact okS_iff.1 this
theorem lastS_pos {l:List Doc} (h:isS l=true):∀ {k:Nat},k≤l.length→0≤lastS l k∧lastS l k≤1099511627776
 | 0,_=>by simp [lastS]
 | k+1,hk=>by
   have h1:=lastS_pos h (k:=k) (by omega)
   have h2:=isS_at h (k:=k) (by omega)
   rw [lastS_next (by omega)]
   omega
theorem rises {l:List Doc} (h:isS l=true) {i:Nat}:∀ {j:Nat} (hi:i<l.length) (hj:j<l.length),i<j→l[i].1<l[j].1
 | 0,_,_,hij=>by omega
 | j+1,hi,hj,hij=>by
   have h2:=isS_at h hj
   rw [lastS_next (by omega)] at h2
   by_cases e:i=j
   ·subst e;exact h2.1
   ·have:=rises h (j:=j) hi (by omega) (by omega)
    omega
def oneB (l:List Doc) (k:Nat):List UInt8:=bytesL ((l.getD k noDoc).1 - lastS l k - 1).toNat++bytesE (l.getD k noDoc).2
theorem oneB_at {l:List Doc} {k:Nat} (hk:k<l.length):oneB l k=bytesL (l[k].1 - lastS l k - 1).toNat++bytesE l[k].2:=by
 unfold oneB
 simp [List.getD,hk]
def rangeB (l:List Doc) (i k:Nat):List UInt8:=(List.range' i (k - i)).flatMap (oneB l)
theorem rangeB_self (l:List Doc) (i:Nat):rangeB l i i=[]:=by simp [rangeB]
theorem rangeB_next {l:List Doc} {i k:Nat} (h:i≤k):rangeB l i (k+1)=rangeB l i k++oneB l k:=by
 unfold rangeB
 rw [show k+1 - i=k - i+1 by omega,List.range'_1_concat,List.flatMap_append,show i+(k - i)=k by omega]
 simp
theorem rangeB_cons {l:List Doc} {i k:Nat} (h:i<k):rangeB l i k=oneB l i++rangeB l (i+1) k:=by
 unfold rangeB
 rw [show k - i=(k - (i+1))+1 by omega,List.range'_succ,List.flatMap_cons]
theorem rangeB_add {l:List Doc} {i j:Nat} (h1:i≤j):∀ {k:Nat},j≤k→rangeB l i j++rangeB l j k=rangeB l i k
 | 0,h2=>by
   obtain rfl:j=0:=by omega
   obtain rfl:i=0:=by omega
   simp [rangeB]
 | k+1,h2=>by
   by_cases e:j=k+1
   ·subst e;rw [rangeB_self,List.append_nil]
   ·rw [rangeB_next (by omega),rangeB_next (by omega),← List.append_assoc,rangeB_add h1 (by omega)]
def endS (l:List Doc) (c:Nat):Nat:=min (16*c+16) l.length
def headB (l:List Doc) (c:Nat):List UInt8:=bytesL (lastS l (endS l c)).toNat++bytesL (rangeB l (16*c) (endS l c)).length
def headsB (l:List Doc) (a c:Nat):List UInt8:=(List.range' a c).flatMap (headB l)
theorem headsB_zero (l:List Doc) (a:Nat):headsB l a 0=[]:=by simp [headsB]
theorem headsB_next (l:List Doc) (a c:Nat):headsB l a (c+1)=headsB l a c++headB l (a+c):=by
 unfold headsB
 rw [List.range'_1_concat,List.flatMap_append]
 simp
theorem headsB_cons (l:List Doc) (a c:Nat):headsB l a (c+1)=headB l a++headsB l (a+1) c:=by
 unfold headsB
 rw [List.range'_succ,List.flatMap_cons]
def blocksN (n:Nat):Nat:=(n+15) / 16
def encS (l:List Doc):List UInt8:=bytesL l.length++(headsB l 0 (blocksN l.length)++rangeB l 0 l.length)
theorem oneB_len {l:List Doc} (h:isS l=true) {k:Nat} (hk:k<l.length):(oneB l k).length≤67000∧1≤(oneB l k).length:=by
 rw [oneB_at hk,List.length_append]
 obtain ⟨h1,h2,h3⟩:=isS_at h hk
 obtain ⟨h4,h5⟩:=checkE_ok.1 h3
 have b1:=bytesL_length (l[k].1 - lastS l k - 1).toNat
 have b2:=bytesE_len l[k].2
 have b3:=sizeF_of_ok h5
 omega
theorem rangeB_len {l:List Doc} (h:isS l=true) {i:Nat}:∀ {k:Nat},i≤k→k≤l.length→(rangeB l i k).length≤67000*(k - i)∧k - i≤(rangeB l i k).length
 | 0,h1,_=>by
   obtain rfl:i=0:=by omega
   simp [rangeB]
 | k+1,h1,h2=>by
   by_cases e:i=k+1
   ·subst e;rw [rangeB_self];simp
   ·have ih:=rangeB_len h (i:=i) (k:=k) (by omega) (by omega)
    have b:=oneB_len h (k:=k) (by omega)
    rw [rangeB_next (by omega),List.length_append]
    omega
def skipH:Nat→List UInt8→Option (List UInt8)
 | 0,l=>some l
 | k+1,l=>match getN l 1099511627776 with
   | none=>none
   | some (_,x)=>match getN x 1099511627776 with
     | none=>none
     | some (_,y)=>skipH k y
def rdR:Nat→Int→List Doc→List UInt8→Option (List Doc)
 | 0,_,acc,_=>some acc
 | f+1,last,acc,l=>match getN l 1099511627776 with
   | none=>none
   | some (d,x)=>match getE x with
     | none=>none
     | some (e,y)=>rdR f (last+1+d) (acc++[(last+1+d,e)]) y
def rdS (b:List UInt8):Option (List Doc):=match getN b 65536 with
 | none=>none
 | some (n,r)=>if b.length<n then none else match skipH (blocksN n) r with
   | none=>none
   | some y=>rdR n 0 [] y
def decS (b:List UInt8):Option (List Doc):=match rdS b with
 | none=>none
 | some l=>if isS l=true∧encS l=b then some l else none
def FitS (l:List Doc):Prop:=∀ d∈l,FitE d.2
theorem skipH_put {l:List Doc} (h:isS l=true):∀ (f c:Nat) (r:List UInt8),16*(c+f)≤l.length+15→skipH f (headsB l c f++r)=some r
 | 0,c,r,_=>by rw [headsB_zero,skipH];rfl
 | f+1,c,r,hc=>by
   have he:endS l c≤l.length:=by unfold endS;omega
   have hs:16*c≤endS l c:=by unfold endS;omega
   have hd:endS l c - 16*c≤16:=by unfold endS;omega
   have h1:=lastS_pos h he
   have h2:=rangeB_len h hs he
   rw [headsB_cons,skipH]
   unfold headB
   simp only [List.append_assoc]
   rw [getN_put (by omega) (by omega)]
   dsimp only
   rw [getN_put (by omega) (by omega)]
   dsimp only
   exact skipH_put h f (c+1) r (by omega)
theorem rdR_put {l:List Doc} (h:isS l=true) (hf:FitS l) (r:List UInt8):∀ (f k:Nat),k+f=l.length→rdR f (lastS l k) (l.take k) (rangeB l k l.length++r)=some l
 | 0,k,hk=>by
   rw [rdR,List.take_of_length_le (by omega)]
 | f+1,k,hk=>by
   have hk':k<l.length:=by omega
   obtain ⟨h1,h2,h3⟩:=isS_at h hk'
   have h0:=lastS_pos h (k:=k) (by omega)
   rw [rdR,rangeB_cons hk',oneB_at hk']
   simp only [List.append_assoc]
   rw [getN_put (by omega) (by omega)]
   dsimp only
   rw [getE_put (hf _ (List.getElem_mem hk')) h3]
   dsimp only
   have e:lastS l k+1+((l[k].1 - lastS l k - 1).toNat:Nat)=l[k].1:=by omega
   rw [e]
   have:=rdR_put h hf r f (k+1) (by omega)
   rw [lastS_next hk',List.take_succ_eq_append_getElem hk'] at this
   exact this
theorem encS_len {l:List Doc} (h:isS l=true):l.length<(encS l).length:=by
 unfold encS
 simp only [List.length_append]
 have h1:=bytesL_length l.length
 have h2:=(rangeB_len h (i:=0) (k:=l.length) (by omega) (by omega)).2
 omega
theorem rdS_put {l:List Doc} (h:isS l=true) (hf:FitS l) (r:List UInt8):rdS (encS l++r)=some l:=by
 have hl:=encS_len h
 have h1:=(isS_iff.1 h).1
 unfold rdS
 have e:encS l++r=bytesL l.length++(headsB l 0 (blocksN l.length)++(rangeB l 0 l.length++r)):=by
  unfold encS
  simp only [List.append_assoc]
 have hg:getN (encS l++r) 65536=some (l.length,headsB l 0 (blocksN l.length)++(rangeB l 0 l.length++r)):=by
  rw [e,getN_put h1 (by omega)]
 rw [hg]
 dsimp only
 rw [if_neg (by rw [List.length_append];omega),skipH_put h _ _ _ (by unfold blocksN;omega)]
 exact rdR_put h hf r l.length 0 (by omega)
theorem decS_put {l:List Doc} (h:isS l=true) (hf:FitS l):decS (encS l)=some l:=by
 have:=rdS_put h hf []
 rw [List.append_nil] at this
 unfold decS
 rw [this]
 simp [h]
theorem rdR_fit:∀ (f:Nat) (last:Int) (acc:List Doc) (b:List UInt8) {l:List Doc},FitS acc→rdR f last acc b=some l→FitS l
 | 0,_,acc,b,l,ha,h=>by
   rw [rdR] at h
   obtain rfl:=Option.some.inj h
   exact ha
 | f+1,last,acc,b,l,ha,h=>by
   rw [rdR] at h
   split at h
   ·cases h
   ·split at h
    ·cases h
    ·rename_i e y hg
     refine rdR_fit f _ _ _ ?_ h
     intro d hd
     rcases List.mem_append.1 hd with hd | hd
     ·exact ha d hd
     ·obtain rfl:=List.mem_singleton.1 hd
      exact (getE_back hg).2.1
theorem decS_back {b:List UInt8} {l:List Doc} (h:decS b=some l):isS l=true∧FitS l∧encS l=b:=by
 unfold decS at h
 split at h
 ·cases h
 ·rename_i m hr
  split at h
  ·rename_i hc
   obtain rfl:=Option.some.inj h
   refine ⟨hc.1,?_,hc.2⟩
   unfold rdS at hr
   split at hr
   ·cases hr
   ·split at hr
    ·cases hr
    ·split at hr
     ·cases hr
     ·exact rdR_fit _ _ _ _ (fun d hd=>by simp at hd) hr
  ·cases h
end Go.Proofs.YtdijhifdjbnkfaaGreat.SM
namespace Go.Proofs.YtdijhifdjbnkfaaGreat.RM
open Go
open Go.Proofs.YtdijhifdjbnkfaaGreat.TK (wordsB wordsB_count word_self)
open Go.Proofs.YtdijhifdjbnkfaaGreat.EM (Fld Ev Tr Trm checkE checkE_ok name_len termsE termsF termsF_pos termsF_rising termsF_ne Rising addP foldP foldP_append foldP_rising foldP_ne posOf posOf_none posOf_fold pairsF pairsW pairsW_snd pairsF_rise pairsF_bounds baseF lessL lessL_ne addP_mem rising_unique)
open Go.Proofs.YtdijhifdjbnkfaaGreat.PM (Post riseF riseL isL isL_ok okL okP okL_len)
theorem termsE_ok {e:Ev} (h:checkE e=0):termsE e=termsF e.2:=by unfold termsE;rw [if_neg (by simpa using h)]
theorem termsE_bad {e:Ev} (h:checkE e≠0):termsE e=[]:=by unfold termsE;rw [if_pos h]
theorem termsE_rising (e:Ev):Rising (termsE e):=by
 by_cases h:checkE e=0
 ·rw [termsE_ok h];exact termsF_rising _
 ·rw [termsE_bad h];simp [Rising]
theorem termsE_ne (e:Ev):∀ t∈termsE e,t.2≠[]:=by
 by_cases h:checkE e=0
 ·rw [termsE_ok h];exact termsF_ne _
 ·rw [termsE_bad h];simp
theorem posOf_mem {α:Type}:∀ {l:List (Tr α)} {t:Tr α},Rising l→t∈l→posOf l t.1=t.2
 | u::r,t,h,hm=>by
   unfold Rising at h
   rw [List.pairwise_cons] at h
   rw [posOf]
   rcases List.mem_cons.1 hm with rfl | hm
   ·rw [if_pos rfl]
   ·rw [if_neg (lessL_ne (h.1 t hm))]
    exact posOf_mem h.2 hm
theorem foldP_mem {α:Type}:∀ (qs:List (List UInt8×α)) {l:List (Tr α)} {t:Tr α},t∈foldP l qs→(∃ u∈l,u.1=t.1)∨∃ q∈qs,q.1=t.1
 | [],l,t,h=>.inl ⟨t,h,rfl⟩
 | q::qs,l,t,h=>by
   rcases foldP_mem qs (l:=addP l q.1 q.2) h with ⟨u,hu,e⟩ | ⟨p,hp,e⟩
   ·rcases addP_mem hu with h1 | ⟨v,hv,h1⟩
    ·exact .inr ⟨q,by simp,by rw [← e,h1]⟩
    ·exact .inl ⟨v,hv,by rw [← e,h1]⟩
   ·exact .inr ⟨p,by simp [hp],e⟩
theorem pairsF_mem:∀ {fs:List Fld} {base:Int} {q:List UInt8×Int},q∈pairsF base fs→∃ f∈fs,∃ x∈wordsB f.2,q.1=f.1++58::x
 | f::r,base,q,h=>by
   rw [pairsF,List.mem_append] at h
   rcases h with h | h
   ·unfold pairsW at h
    obtain ⟨p,hp,rfl⟩:=List.mem_map.1 h
    exact ⟨f,by simp,p.1,(List.mem_zipIdx hp).2.2▸List.getElem_mem _,rfl⟩
   ·obtain ⟨g,hg,h⟩:=pairsF_mem h
    exact ⟨g,by simp [hg],h⟩
theorem termsE_len {e:Ev} {t:Trm} (h:t∈termsE e):1≤t.1.length∧t.1.length≤65:=by
 by_cases hc:checkE e=0
 ·rw [termsE_ok hc] at h
  rcases foldP_mem _ h with ⟨u,hu,_⟩ | ⟨q,hq,e1⟩
  ·simp at hu
  ·obtain ⟨f,hf,x,hx,e2⟩:=pairsF_mem hq
   have h1:=name_len ((checkE_ok.1 hc).2 f hf).1
   have h2:=(word_self f.2 x hx).2
   rw [← e1,e2]
   simp only [List.length_append,List.length_cons]
   omega
 ·rw [termsE_bad hc] at h;simp at h
theorem pairsF_above:∀ (fs:List Fld) (base:Int),∀ v∈(pairsF base fs).map (·.2),v<base+baseF fs
 | [],base,v,h=>by simp [pairsF] at h
 | f::r,base,v,h=>by
   have e:baseF (f::r)=((wordsB f.2).length:Int)+64+baseF r:=by simp [baseF]
   have hp:0≤baseF r:=by
    clear h e
    induction r with
    | nil=>simp [baseF]
    | cons g r ih=>have:baseF (g::r)=((wordsB g.2).length:Int)+64+baseF r:=by simp [baseF]
                   omega
   rw [pairsF,List.map_append,List.mem_append,pairsW_snd] at h
   rcases h with h | h
   ·obtain ⟨k,hk,rfl⟩:=List.mem_map.1 h
    have:=List.mem_range.1 hk
    omega
   ·have:=pairsF_above r _ v h
    omega
theorem baseF_le:∀ {fs:List Fld},(∀ f∈fs,f.2.length≤4096)→baseF fs≤4160*(fs.length:Int)
 | [],_=>by simp [baseF]
 | f::r,h=>by
   have e:baseF (f::r)=((wordsB f.2).length:Int)+64+baseF r:=by simp [baseF]
   have h1:=wordsB_count f.2
   have h2:=h f (by simp)
   have h3:=baseF_le (fs:=r) fun g hg=>h g (by simp [hg])
   rw [e,List.length_cons]
   omega
theorem riseF_of {fin:Int}:∀ {zs:List Int} {a:Int},(∀ z∈zs,a<z∧z<fin)→zs.Pairwise (·<·)→riseF fin a zs=true
 | [],a,_,_=>rfl
 | z::zs,a,h,hp=>by
   rw [List.pairwise_cons] at hp
   have h0:=h z (by simp)
   rw [riseF,Bool.and_eq_true,Bool.and_eq_true,decide_eq_true_eq,decide_eq_true_eq]
   exact ⟨h0,riseF_of (fun y hy=>⟨hp.1 y hy,(h y (by simp [hy])).2⟩) hp.2⟩
theorem termsE_rise (e:Ev) (x:List UInt8):riseL 1048576 (posOf (termsE e) x)=true:=by
 by_cases hc:checkE e=0
 ·obtain ⟨h1,h2⟩:=checkE_ok.1 hc
  rw [termsE_ok hc,termsF_pos]
  have hsub:(((pairsF 0 e.2).filter (fun q=>q.1=x)).map (·.2)).Sublist ((pairsF 0 e.2).map (·.2)):=List.filter_sublist.map _
  refine riseF_of (fun z hz => ?_) ((pairsF_rise e.2 0).sublist hsub)
  have hm:=hsub.subset hz
  have b1:=pairsF_bounds e.2 0 z hm
  have b2:=pairsF_above e.2 0 z hm
  have b3:=baseF_le fun f hf=>(h2 f hf).2
  omega
 ·rw [termsE_bad hc];rfl
def pairsP:Int→List (List Trm)→List (List UInt8×Post)
 | _,[]=>[]
 | i,ts::r=>ts.map (fun t=>(t.1,(i,t.2)))++pairsP (i+1) r
theorem pairsP_append:∀ (a b:List (List Trm)) (i:Int),pairsP i (a++b)=pairsP i a++pairsP (i+(a.length:Int)) b
 | [],b,i=>by simp [pairsP]
 | t::a,b,i=>by
   rw [List.cons_append,pairsP,pairsP,pairsP_append a b,List.append_assoc,List.length_cons]
   congr 3
   omega
theorem pairsP_next {tss:List (List Trm)} {k:Nat} (hk:k<tss.length):pairsP 0 (tss.take (k+1))=pairsP 0 (tss.take k)++tss[k].map (fun t=>(t.1,((k:Int),t.2))):=by
 rw [List.take_succ_eq_append_getElem hk,pairsP_append,pairsP,pairsP,List.append_nil,List.length_take,Nat.min_eq_left (Nat.le_of_lt hk),Int.zero_add]
def rowsT (tss:List (List Trm)):List (Tr Post):=foldP [] (pairsP 0 tss)
theorem rowsT_rising (tss:List (List Trm)):Rising (rowsT tss):=foldP_rising _ (by simp [Rising])
theorem rowsT_ne (tss:List (List Trm)):∀ t∈rowsT tss,t.2≠[]:=foldP_ne _ (by simp)
theorem pairsP_mem:∀ {tss:List (List Trm)} {i:Int} {q:List UInt8×Post},q∈pairsP i tss→∃ ts∈tss,∃ t∈ts,q.1=t.1
 | ts::r,i,q,h=>by
   rw [pairsP,List.mem_append] at h
   rcases h with h | h
   ·obtain ⟨t,ht,rfl⟩:=List.mem_map.1 h
    exact ⟨ts,by simp,t,ht,rfl⟩
   ·obtain ⟨us,hu,h⟩:=pairsP_mem h
    exact ⟨us,by simp [hu],h⟩
theorem rowsT_mem {tss:List (List Trm)} {r:Tr Post} (h:r∈rowsT tss):∃ ts∈tss,∃ t∈ts,r.1=t.1:=by
 rcases foldP_mem _ h with ⟨u,hu,_⟩ | ⟨q,hq,e⟩
 ·simp at hu
 ·obtain ⟨ts,h1,t,h2,h3⟩:=pairsP_mem hq
  exact ⟨ts,h1,t,h2,by rw [← e,h3]⟩
def postsT:Int→List (List Trm)→List UInt8→List Post
 | _,[],_=>[]
 | i,ts::r,x=>(if posOf ts x=[] then [] else [(i,posOf ts x)])++postsT (i+1) r x
theorem filter_one:∀ {ts:List Trm} (i:Int) (x:List UInt8),Rising ts→(∀ t∈ts,t.2≠[]) →
  ((ts.map fun t=>(t.1,((i,t.2):Post))).filter (fun q=>q.1=x)).map (·.2)=if posOf ts x=[] then [] else [(i,posOf ts x)]
 | [],i,x,_,_=>by simp [posOf]
 | t::r,i,x,h,hn=>by
   unfold Rising at h
   rw [List.pairwise_cons] at h
   have ih:=filter_one i x h.2 fun u hu=>hn u (by simp [hu])
   rw [List.map_cons,posOf]
   by_cases e:t.1=x
   ·subst e
    have h0:posOf r t.1=[]:=posOf_none fun u hu hx=>lessL_ne (h.1 u hu) hx.symm
    rw [if_pos rfl,if_neg (hn t (by simp)),List.filter_cons_of_pos (by simp),List.map_cons,ih,h0]
    simp
   ·rw [if_neg e,List.filter_cons_of_neg (by simpa using e),ih]
theorem pairsP_posts:∀ {tss:List (List Trm)} (i:Int) (x:List UInt8),(∀ ts∈tss,Rising ts∧∀ t∈ts,t.2≠[])→((pairsP i tss).filter (fun q=>q.1=x)).map (·.2)=postsT i tss x
 | [],i,x,_=>rfl
 | ts::r,i,x,h=>by
   rw [pairsP,List.filter_append,List.map_append,postsT,filter_one i x (h ts (by simp)).1 (h ts (by simp)).2,pairsP_posts (i+1) x fun us hu=>h us (by simp [hu])]
theorem rowsT_posts {tss:List (List Trm)} (h:∀ ts∈tss,Rising ts∧∀ t∈ts,t.2≠[]) (x:List UInt8):posOf (rowsT tss) x=postsT 0 tss x:=by
 unfold rowsT
 rw [posOf_fold _ _ (by simp [Rising]),pairsP_posts 0 x h]
 rfl
theorem okL_mono {ps:List Post} {n m:Int} (h:okL n ps) (hm:m≤n):okL m ps:=by
 cases ps with
 | nil=>trivial
 | cons p ps =>
   rw [okL] at h ⊢
   unfold okP at h ⊢
   exact ⟨⟨by omega,h.1.2⟩,h.2⟩
theorem postsT_ok:∀ {tss:List (List Trm)} {n:Int} {x:List UInt8},(∀ ts∈tss,riseL 1048576 (posOf ts x)=true)→n+(tss.length:Int)≤65536→okL n (postsT n tss x)
 | [],n,x,_,_=>trivial
 | ts::r,n,x,h,hn=>by
   rw [List.length_cons] at hn
   have ih:=postsT_ok (tss:=r) (n:=n+1) (x:=x) (fun us hu=>h us (by simp [hu])) (by omega)
   rw [postsT]
   split
   ·rw [List.nil_append]
    exact okL_mono ih (by omega)
   ·rename_i hne
    rw [List.singleton_append,okL]
    refine ⟨⟨by omega,?_,hne,h ts (by simp)⟩,ih⟩
    show n<65536
    omega
theorem posts_may (es:List Ev) (x:List UInt8) (h:es.length≤65536):isL (postsT 0 (es.map termsE) x)=true:=by
 rw [isL_ok]
 refine postsT_ok (fun ts hts => ?_) (by rw [List.length_map];omega)
 obtain ⟨e,_,rfl⟩:=List.mem_map.1 hts
 exact termsE_rise e x
theorem terms_all (es:List Ev):∀ ts∈es.map termsE,Rising ts∧∀ t∈ts,t.2≠[]:=fun ts hts=>by
 obtain ⟨e,_,rfl⟩:=List.mem_map.1 hts
 exact ⟨termsE_rising e,termsE_ne e⟩
def rowsE (es:List Ev):List (Tr Post):=rowsT (es.map termsE)
theorem rowsE_rising (es:List Ev):Rising (rowsE es):=rowsT_rising _
theorem rowsE_posts (es:List Ev) (x:List UInt8):posOf (rowsE es) x=postsT 0 (es.map termsE) x:=rowsT_posts (terms_all es) x
theorem rowsE_may {es:List Ev} (h:es.length≤65536) {r:Tr Post} (hr:r∈rowsE es):isL r.2=true∧r.2≠[]:=by
 have e:=posOf_mem (rowsE_rising es) hr
 rw [rowsE_posts] at e
 exact ⟨by rw [← e];exact posts_may es r.1 h,rowsT_ne _ r hr⟩
theorem rowsE_len {es:List Ev} {r:Tr Post} (hr:r∈rowsE es):1≤r.1.length∧r.1.length≤65:=by
 obtain ⟨ts,hts,t,ht,e⟩:=rowsT_mem hr
 obtain ⟨ev,_,rfl⟩:=List.mem_map.1 hts
 rw [e]
 exact termsE_len ht
theorem rowsE_count {es:List Ev} (h:es.length≤65536) {r:Tr Post} (hr:r∈rowsE es):r.2.length≤65536:=okL_len _ ((isL_ok _).1 (rowsE_may h hr).1)
end Go.Proofs.YtdijhifdjbnkfaaGreat.RM
namespace Go.Proofs.YtdijhifdjbnkfaaGreat.GM
open Go Go.Proofs.YtdijhifdjbnkfaaGreat.VM
open Go.Proofs.YtdijhifdjbnkfaaGreat.EM (Ev Tr Trm FitE Rising posOf termsE lessL)
open Go.Proofs.YtdijhifdjbnkfaaGreat.PM (Post isL)
open Go.Proofs.YtdijhifdjbnkfaaGreat.DM (Ent okX okX_iff areD areR areR_cons riseO encD)
open Go.Proofs.YtdijhifdjbnkfaaGreat.SM (Doc isS encS decS decS_put decS_back FitS lastS isS_iff)
open Go.Proofs.YtdijhifdjbnkfaaGreat.RM (rowsE rowsE_rising rowsE_may rowsE_len rowsE_count rowsE_posts)
open Go.Proofs.YtdijhifdjbnkfaaGreat.FM (frameL framesL framesL_cons getR getR_put getR_back)
open Go.Proofs.YtdijhifdjbnkfaaGreat.BM (addA addA_all newL newL_len roomL roomL_le mayL addT addT_len)
def evs (l:List Doc):List Ev:=l.map (·.2)
def rowsG (l:List Doc):List (Tr Post):=rowsE (evs l)
def timesG:Int→List Doc→List UInt8
 | _,[]=>[]
 | a,d::r=>intL (IntKind.i64.wrap (d.2.1 - a))++timesG d.2.1 r
def lastT:Int→List Doc→Int
 | a,[]=>a
 | _,d::r=>lastT d.2.1 r
theorem lastT_snoc:∀ (a:List Doc) (d:Doc) (z:Int),lastT z (a++[d])=d.2.1
 | [],d,z=>rfl
 | x::a,d,z=>by rw [List.cons_append,lastT,lastT_snoc a d]
theorem lastT_next {l:List Doc} {k:Nat} (hk:k<l.length) (z:Int):lastT z (l.take (k+1))=l[k].2.1:=by
 rw [List.take_succ_eq_append_getElem hk,lastT_snoc]
def postsG (rows:List (Tr Post)):List UInt8:=rows.flatMap fun r=>PM.encL r.2
theorem postsG_next {rows:List (Tr Post)} {k:Nat} (hk:k<rows.length):postsG (rows.take (k+1))=postsG (rows.take k)++PM.encL rows[k].2:=by
 unfold postsG
 rw [List.take_succ_eq_append_getElem hk,List.flatMap_append]
 simp
theorem postsG_take (rows:List (Tr Post)) (k:Nat):(postsG (rows.take k)).length≤(postsG rows).length:=by
 have:postsG rows=postsG (rows.take k)++postsG (rows.drop k):=by
  unfold postsG
  rw [← List.flatMap_append,List.take_append_drop]
 rw [this,List.length_append]
 omega
def entsG:Int→List (Tr Post)→List Ent
 | _,[]=>[]
 | off,r::l=>(r.1,(off,(((PM.encL r.2).length:Int),(r.2.length:Int))))::entsG (off+((PM.encL r.2).length:Int)) l
theorem entsG_append:∀ (a b:List (Tr Post)) (off:Int),entsG off (a++b)=entsG off a++entsG (off+((postsG a).length:Int)) b
 | [],b,off=>by simp [entsG,postsG]
 | r::a,b,off=>by
   have e:postsG (r::a)=PM.encL r.2++postsG a:=by simp [postsG]
   rw [List.cons_append,entsG,entsG,entsG_append a b,e,List.length_append,List.cons_append]
   congr 3
   omega
theorem entsG_next {rows:List (Tr Post)} {k:Nat} (hk:k<rows.length):entsG 0 (rows.take (k+1))=entsG 0 (rows.take k)++[(rows[k].1,(((postsG (rows.take k)).length:Int),(((PM.encL rows[k].2).length:Int),(rows[k].2.length:Int))))]:=by
 rw [List.take_succ_eq_append_getElem hk,entsG_append,entsG,entsG,Int.zero_add]
theorem entsG_len:∀ (rows:List (Tr Post)) (off:Int),(entsG off rows).length=rows.length
 | [],_=>rfl
 | r::rows,off=>by rw [entsG,List.length_cons,List.length_cons,entsG_len rows]
theorem entsG_terms:∀ (rows:List (Tr Post)) (off:Int),(entsG off rows).map (·.1)=rows.map (·.1)
 | [],_=>rfl
 | r::rows,off=>by rw [entsG,List.map_cons,List.map_cons,entsG_terms rows]
theorem entsG_are:∀ {rows:List (Tr Post)} {off:Int} {p:Option (List UInt8)},Rising rows→(∀ r∈rows,1≤r.1.length∧r.1.length≤65∧r.2.length≤65536)→(∀ q,p=some q→∀ r∈rows,lessL q r.1=true)→0≤off →
  off+((postsG rows).length:Int)≤67108864→areR p (entsG off rows)=true
 | [],off,p,_,_,_,_,_=>by cases p<;>rfl
 | r::rows,off,p,h,h2,h3,h4,h5=>by
   unfold Rising at h
   rw [List.pairwise_cons] at h
   have e:postsG (r::rows)=PM.encL r.2++postsG rows:=by simp [postsG]
   rw [e,List.length_append] at h5
   have hr:=h2 r (by simp)
   rw [entsG,areR_cons,Bool.and_eq_true,Bool.and_eq_true]
   refine ⟨⟨okX_iff.2 ⟨⟨hr.1,hr.2.1⟩,⟨h4,?_⟩,⟨?_,?_⟩,?_,?_⟩,?_⟩,entsG_are (off:=off+((PM.encL r.2).length:Int)) h.2 (fun u hu=>h2 u (by simp [hu])) (fun q hq u hu => ?_) (by omega) (by omega)⟩
   ·show off≤67108864
    omega
   ·show (0:Int)≤((PM.encL r.2).length:Int)
    omega
   ·show ((PM.encL r.2).length:Int)≤67108864
    omega
   ·show (0:Int)≤(r.2.length:Int)
    omega
   ·show (r.2.length:Int)≤67108864
    omega
   ·cases p with
    | none=>rfl
    | some q=>exact h3 q rfl r (by simp)
   ·obtain rfl:=Option.some.inj hq
    exact h.1 u hu
def filterG (rows:List (Tr Post)):List UInt8:=(addA (newL rows.length) (rows.map (·.1))).1
theorem filterG_len (rows:List (Tr Post)):(filterG rows).length=roomL rows.length:=by
 unfold filterG
 rw [addA_all,newL_len]
abbrev Foot:=Int×Int×Int×Int×Nat
def footN (p:Foot) (d:Doc):Foot:=if p.2.2.2.2=0 then (d.2.1,d.2.1,d.1,d.1,1) else (min p.1 d.2.1,max p.2.1 d.2.1,p.2.2.1,d.1,p.2.2.2.2+1)
def footG (l:List Doc):Foot:=l.foldl footN (0,0,0,0,0)
def footB (p:Foot):List UInt8:=intL p.1++(intL p.2.1++(intL p.2.2.1++(intL p.2.2.2.1++intL (p.2.2.2.2:Int))))
def sectsG (l:List Doc):List (List UInt8):=[SM.encS l,timesG 0 l,postsG (rowsG l),encD (entsG 0 (rowsG l)),filterG (rowsG l),footB (footG l)]
def bytesG (l:List Doc):List UInt8:=[76,83,69,71]++framesL (sectsG l)
def fitsG (l:List Doc):Bool:=(sectsG l).all fun s=>decide (s.length≤16777216)
def encG (l:List Doc):List UInt8×Int :=
 if isS l=false∨l=[] then ([],130) else if 262144<(rowsG l).length∨16777216<(postsG (rowsG l)).length∨fitsG l=false then ([],2) else (bytesG l,0)
theorem encG_cases (l:List Doc):encG l=([],130)∨encG l=([],2)∨encG l=(bytesG l,0):=by
 unfold encG
 split
 ·exact .inl rfl
 ·split
  ·exact .inr (.inl rfl)
  ·exact .inr (.inr rfl)
theorem encG_ok {l:List Doc} {b:List UInt8} (h:encG l=(b,0)):isS l=true∧l≠[]∧(rowsG l).length≤262144∧(postsG (rowsG l)).length≤16777216∧fitsG l=true∧b=bytesG l:=by
 unfold encG at h
 split at h
 ·simp at h
 ·rename_i h1
  split at h
  ·simp at h
  ·rename_i h2
   have h3:=congrArg Prod.fst h
   simp only [not_or] at h1 h2
   exact ⟨by simpa using h1.1,h1.2,by omega,by omega,by simpa using h2.2.2,h3.symm⟩
theorem encG_first {l:List Doc} {b:List UInt8} (h:encG l=(b,0)) (r:List UInt8):getR ((b++r).drop 4)=(SM.encS l,(frameL (SM.encS l)).length,0):=by
 obtain ⟨_,_,_,_,h5,rfl⟩:=encG_ok h
 have h6:(SM.encS l).length≤16777216:=by
  unfold fitsG sectsG at h5
  simp only [List.all_cons,Bool.and_eq_true,decide_eq_true_eq] at h5
  exact h5.1
 have e:(bytesG l++r).drop 4=frameL (SM.encS l)++(framesL (sectsG l).tail++r):=by
  unfold bytesG sectsG
  rw [framesL_cons]
  simp only [List.append_assoc,List.tail_cons]
  rfl
 rw [e,getR_put h6]
def decG (b:List UInt8):Option (List Doc) :=
 if b.length<4 then none
 else if (getR (b.drop 4)).2.2≠0 then none
 else match decS (getR (b.drop 4)).1 with
  | none=>none
  | some l=>if encG l=(b,0) then some l else none
theorem decG_put {l:List Doc} {b:List UInt8} (hf:FitS l) (h:encG l=(b,0)):decG b=some l:=by
 have h1:=encG_first h []
 rw [List.append_nil] at h1
 obtain ⟨h2,_,_,_,_,e⟩:=encG_ok h
 have hl:¬ b.length<4:=by rw [e];unfold bytesG;simp
 unfold decG
 rw [if_neg hl,h1]
 dsimp only
 rw [if_neg (by simp),decS_put h2 hf]
 dsimp only
 rw [if_pos h]
theorem decG_back {b:List UInt8} {l:List Doc} (h:decG b=some l):encG l=(b,0)∧FitS l:=by
 unfold decG at h
 split at h
 ·cases h
 ·split at h
  ·cases h
  ·split at h
   ·cases h
   ·rename_i m hd
    split at h
    ·rename_i he
     obtain rfl:=Option.some.inj h
     exact ⟨he,(decS_back hd).2.1⟩
    ·cases h
theorem decG_iff {b:List UInt8} {l:List Doc}:decG b=some l↔encG l=(b,0)∧FitS l:=⟨decG_back,fun ⟨h1,h2⟩=>decG_put h2 h1⟩
theorem ents_are {l:List Doc} (h:isS l=true) (hr:(rowsG l).length≤262144) (hp:(postsG (rowsG l)).length≤16777216):areD (entsG 0 (rowsG l))=true:=by
 have hn:(evs l).length≤65536:=by unfold evs;rw [List.length_map];exact (isS_iff.1 h).1
 unfold areD
 rw [entsG_len,Bool.and_eq_true,decide_eq_true_eq]
 refine ⟨hr,entsG_are (rowsE_rising _) (fun r hr => ?_) (fun q hq=>by cases hq) (by omega) (by omega)⟩
 exact ⟨(rowsE_len hr).1,(rowsE_len hr).2,rowsE_count hn hr⟩
theorem rows_may {l:List Doc} (h:isS l=true):∀ r∈rowsG l,isL r.2=true∧r.2≠[]:=fun r hr=>rowsE_may (by unfold evs;rw [List.length_map];exact (isS_iff.1 h).1) hr
end Go.Proofs.YtdijhifdjbnkfaaGreat.GM
