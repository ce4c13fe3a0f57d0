/-
  
-/
import Derived.Test.YtdijhifdjbnkfaaGreatZA50
import Derived.Test.YtdijhifdjbnkfaaGreatZA14
import Derived.Test.YtdijhifdjbnkfaaGreatZA9
import Derived.Test.YtdijhifdjbnkfaaGreatZA6
import Derived.Laws.MakeOwn
import Derived.Test.YtdijhifdjbnkfaaGreatZA15
set_option linter.unusedSimpArgs false
set_option linter.unusedVariables false
namespace Go.Proofs.YtdijhifdjbnkfaaGreat.SR
open Go Go.RowKit Go.Proofs.YtdijhifdjbnkfaaGreat.MM Go.Proofs.YtdijhifdjbnkfaaGreat.VM Go.Proofs.YtdijhifdjbnkfaaGreat.SM
open Go.Proofs.YtdijhifdjbnkfaaGreat.EM (Fld Ev checkE FitE bytesE bytesE_len getE getE_put getE_back)
open Go.Proofs.YtdijhifdjbnkfaaGreat.EV (getR getR_some getR_none)
theorem num_ok {m:Nat} {l:List UInt8} (o:Bool) (h:(getL l).2.2=0) (h2:(getL l).1≤m):numSt m l o=((getL l).1,l.drop (getL l).2.1,o):=by
 unfold numSt VG.restL
 rw [if_pos ⟨h,h2⟩,if_pos h]
theorem num_le (m:Nat) (l:List UInt8) (o:Bool):(numSt m l o).1≤m:=by
 unfold numSt
 split
 ·rename_i h;exact h.2
 ·exact Nat.zero_le _
theorem num_rest (m:Nat) (l:List UInt8) (o:Bool):(numSt m l o).2.1.length≤l.length:=by
 unfold numSt VG.restL
 split
 ·dsimp only
  split
  ·rw [List.length_drop];omega
  ·simp
 ·simp
theorem num_put {n m:Nat} (h:n≤m) (hn:n<18446744073709551616) (r:List UInt8) (o:Bool):numSt m (bytesL n++r) o=(n,r,o):=by
 have e:=getL_put n hn r
 rw [num_ok o (by rw [e]) (by rw [e];exact h),e]
 dsimp only
 rw [List.drop_left]
theorem num_back {m:Nat} {l:List UInt8} {o:Bool} (h:(numSt m l o).2.2=false):o=false∧bytesL (numSt m l o).1++(numSt m l o).2.1=l:=by
 by_cases h1:(getL l).2.2=0∧(getL l).1≤m
 ·rw [num_ok o h1.1 h1.2] at h ⊢
  exact ⟨h,getL_back (Prod.ext rfl (Prod.ext rfl h1.1))⟩
 ·unfold numSt at h
  rw [if_neg h1] at h
  cases h
theorem ev_put {e:Ev} (hf:FitE e) (h:checkE e=0) (r:List UInt8) (o:Bool):evS (bytesE e++r) o=(e,r,o):=by
 unfold evS
 rw [getR_some (getE_put hf h r)]
 simp
theorem ev_back {l:List UInt8} {o:Bool} (h:(evS l o).2.2=false):o=false∧bytesE (evS l o).1++(evS l o).2.1=l∧FitE (evS l o).1∧checkE (evS l o).1=0:=by
 unfold evS at h ⊢
 cases hg:getE l with
 | none=>rw [getR_none hg] at h;simp at h
 | some p =>
   obtain ⟨e,r⟩:=p
   rw [getR_some hg] at h ⊢
   dsimp only at h ⊢
   obtain ⟨h1,h2,h3⟩:=getE_back hg
   exact ⟨by simpa using h,h1,h2,h3⟩
theorem ev_rest (l:List UInt8) (o:Bool):(evS l o).2.1.length≤l.length:=by
 unfold evS
 cases hg:getE l with
 | none=>rw [getR_none hg];simp
 | some p =>
   obtain ⟨e,r⟩:=p
   rw [getR_some hg]
   have:=congrArg List.length (getE_back hg).1
   rw [List.length_append] at this
   dsimp only
   omega
abbrev Head:=Int×(Int×Int)
def headsSt:Nat→Nat→List UInt8→Bool→List Head×List UInt8×Bool
 | 0,_,l,o=>([],l,o)
 | f+1,n,l,o=>if n=0 then ([],l,o) else
   let a:=numSt 1099511627776 l o
   let b:=numSt a.2.1.length a.2.1 a.2.2
   let r:=headsSt f (n - 16) b.2.1 b.2.2
   (((min n 16:Nat),((a.1:Int),(b.1:Int)))::r.1,r.2)
def docsSt:Nat→Int→List UInt8→Bool→List Doc×Int×List UInt8×Bool
 | 0,a,l,o=>([],a,l,o)
 | f+1,a,l,o =>
   let k:=numSt 1099511627776 l o
   let e:=evS k.2.1 k.2.2
   let r:=docsSt f (a+(1+(k.1:Int))) e.2.1 e.2.2
   ((a+(1+(k.1:Int)),e.1)::r.1,r.2)
def blkSt (h:Head) (a:Int) (l:List UInt8) (o:Bool):List Doc×List UInt8×Bool :=
 if (l.length:Int)<h.2.2 then ([],[],true) else
 let s:=docsSt h.1.toNat a (l.take h.2.2.toNat) false
 if s.2.2.2=true∨s.2.2.1≠[]∨s.2.1≠h.2.1 then (s.1,[],true) else (s.1,l.drop h.2.2.toNat,o)
def rowSt:List Head→Int→List UInt8→Bool→List (List Doc)×List UInt8×Bool
 | [],_,l,o=>([],l,o)
 | h::r,a,l,o =>
   let b:=blkSt h a l o
   if b.2.2=true then ([],b.2.1,true) else
   let q:=rowSt r h.2.1 b.2.1 b.2.2
   (b.1::q.1,q.2)
def allSt (b:List UInt8):List (List Doc)×List UInt8×Bool :=
 let n:=numSt 65536 b false
 let h:=headsSt 4096 n.1 n.2.1 n.2.2
 rowSt h.1 0 h.2.1 h.2.2
def decC (b:List UInt8):Option (List Doc):=if (allSt b).2.2=true∨(allSt b).2.1≠[] then none else some (allSt b).1.flatten
def headsOf:Int→List (List Doc)→List Head
 | _,[]=>[]
 | a,c::r=>((c.length:Int),(endA a c,((blkS a c).length:Int)))::headsOf (endA a c) r
def hbytes (hs:List Head):List UInt8:=hs.flatMap fun h=>bytesL h.2.1.toNat++bytesL h.2.2.toNat
def bodies:Int→List (List Doc)→List UInt8
 | _,[]=>[]
 | a,c::r=>blkS a c++bodies (endA a c) r
def Six:Nat→List (List Doc)→Prop
 | n,[]=>n=0
 | n,c::r=>0<n∧c.length=min n 16∧Six (n - 16) r
theorem blkS_app:∀ (a:Int) (c d:List Doc),blkS a (c++d)=blkS a c++blkS (endA a c) d
 | _,[],_=>rfl
 | a,x::r,d=>by rw [List.cons_append,blkS,blkS_app x.1 r d,blkS,endA,List.append_assoc (bytesL (x.1 - a - 1).toNat++bytesE x.2)]
theorem endA_app:∀ (a:Int) (c d:List Doc),endA a (c++d)=endA (endA a c) d
 | _,[],_=>rfl
 | a,x::r,d=>endA_app x.1 r d
theorem bodies_flat:∀ (a:Int) (bs:List (List Doc)),bodies a bs=blkS a bs.flatten
 | _,[]=>rfl
 | a,c::r=>by rw [bodies,bodies_flat,List.flatten_cons,blkS_app]
theorem six_len:∀ {n:Nat} {bs:List (List Doc)},Six n bs→bs.flatten.length=n
 | n,[],h=>by have h:n=0:=h;simp [h]
 | n,c::r,h=>by
   obtain ⟨h1,h2,h3⟩:=h
   have:=six_len h3
   rw [List.flatten_cons,List.length_append,this,h2]
   omega
theorem six_count:∀ {n:Nat} {bs:List (List Doc)},Six n bs→bs.length=(n+15) / 16
 | n,[],h=>by have h:n=0:=h;simp [h]
 | n,c::r,h=>by
   obtain ⟨h1,h2,h3⟩:=h
   have:=six_count h3
   rw [List.length_cons,this]
   omega
theorem docs_put:∀ {c:List Doc} {a:Int} (r:List UInt8),isR a c=true→FitS c→0≤a→docsSt c.length a (blkS a c++r) false=(c,endA a c,r,false)
 | [],_,_,_,_,_=>rfl
 | d::c,a,r,h,hf,h0=>by
   rw [isR,Bool.and_eq_true] at h
   obtain ⟨h1,h2,h3⟩:=okS_iff.1 h.1
   have e:a+(1+((d.1 - a - 1).toNat:Int))=d.1:=by omega
   rw [List.length_cons,docsSt,blkS]
   simp only [List.append_assoc]
   rw [num_put (by omega) (by omega)]
   dsimp only
   rw [ev_put (hf d (by simp)) h3]
   dsimp only
   rw [e,docs_put r h.2 (fun x hx=>hf x (by simp [hx])) (by omega)]
   rfl
theorem blk_put {c:List Doc} {a:Int} (r:List UInt8) (h:isR a c=true) (hf:FitS c) (h0:0≤a):blkSt ((c.length:Int),(endA a c,((blkS a c).length:Int))) a (blkS a c++r) false=(c,r,false):=by
 have:=docs_put [] h hf h0
 rw [List.append_nil] at this
 unfold blkSt
 dsimp only
 rw [if_neg (by rw [List.length_append];omega),Int.toNat_natCast,Int.toNat_natCast,List.take_left,List.drop_left,this]
 simp
theorem row_put:∀ {bs:List (List Doc)} {a:Int} (r:List UInt8),isR a bs.flatten=true→FitS bs.flatten→0≤a→rowSt (headsOf a bs) a (bodies a bs++r) false=(bs,r,false)
 | [],_,_,_,_,_=>rfl
 | c::bs,a,r,h,hf,h0=>by
   rw [List.flatten_cons] at h hf
   rw [isR_app,Bool.and_eq_true] at h
   have h1:=endA_ge h.1
   rw [headsOf,rowSt,bodies,List.append_assoc,blk_put _ h.1 (fun x hx=>hf x (List.mem_append_left _ hx)) h0]
   dsimp only
   rw [if_neg (by simp),row_put r h.2 (fun x hx=>hf x (List.mem_append_right _ hx)) (by omega)]
theorem heads_put:∀ {f n:Nat} {bs:List (List Doc)} {a:Int} (r:List UInt8),Six n bs→bs.length≤f→isR a bs.flatten=true→0≤a→a≤1099511627776→(bodies a bs).length≤r.length→r.length<18446744073709551616→headsSt f n (hbytes (headsOf a bs)++r) false=(headsOf a bs,r,false)
 | 0,n,bs,a,r,h,hl,_,_,_,_,_=>by
   obtain rfl:bs=[]:=List.eq_nil_of_length_eq_zero (by omega)
   rfl
 | f+1,n,[],a,r,h,_,_,_,_,_,_=>by
   have h:n=0:=h
   rw [headsSt,if_pos h]
   rfl
 | f+1,n,c::bs,a,r,h,hl,hr,h0,h9,hb,hm=>by
   obtain ⟨s1,s2,s3⟩:=h
   rw [List.flatten_cons,isR_app,Bool.and_eq_true] at hr
   have g1:=endA_ge hr.1
   have g2:=endA_le hr.1 h9
   rw [bodies,List.length_append] at hb
   have hh:hbytes (headsOf a (c::bs))++r=bytesL (endA a c).toNat++(bytesL (blkS a c).length++(hbytes (headsOf (endA a c) bs)++r)):=by
    rw [headsOf]
    unfold hbytes
    rw [List.flatMap_cons]
    simp only [Int.toNat_natCast,List.append_assoc]
   rw [hh,headsSt,if_neg (by omega),num_put (by omega) (by omega)]
   dsimp only
   rw [num_put (by simp only [List.length_append];omega) (by omega)]
   dsimp only
   rw [heads_put r s3 (by rw [List.length_cons] at hl;omega) hr.2 (by omega) g2 (by omega) hm,headsOf,s2]
   simp only [show ((endA a c).toNat:Int)=endA a c by omega]
def upR:Int→List Doc→Prop
 | _,[]=>True
 | a,d::r=>a<d.1∧checkE d.2=0∧FitE d.2∧upR d.1 r
theorem up_ge:∀ {a:Int} {c:List Doc},upR a c→a≤endA a c
 | _,[],_=>Int.le_refl _
 | a,d::r,h=>by
   have:=up_ge h.2.2.2
   rw [endA]
   have:=h.1
   omega
theorem up_is:∀ {a:Int} {c:List Doc},upR a c→endA a c≤1099511627776→isR a c=true∧FitS c
 | _,[],_,_=>⟨rfl,fun d hd=>by simp at hd⟩
 | a,d::r,h,h9=>by
   rw [endA] at h9
   have h1:=up_ge h.2.2.2
   have h2:=up_is h.2.2.2 h9
   rw [isR,Bool.and_eq_true,okS_iff]
   refine ⟨⟨⟨h.1,by omega,h.2.1⟩,h2.1⟩,fun x hx => ?_⟩
   rcases List.mem_cons.1 hx with rfl | hx
   ·exact h.2.2.1
   ·exact h2.2 x hx
theorem docs_back:∀ (f:Nat) (a:Int) (l:List UInt8) (o:Bool),(docsSt f a l o).2.2.2=false→o=false∧(docsSt f a l o).1.length=f∧blkS a (docsSt f a l o).1++(docsSt f a l o).2.2.1=l∧upR a (docsSt f a l o).1∧endA a (docsSt f a l o).1=(docsSt f a l o).2.1
 | 0,_,_,_,h=>⟨h,rfl,rfl,trivial,rfl⟩
 | f+1,a,l,o,h=>by
   rw [docsSt] at h ⊢
   dsimp only at h ⊢
   obtain ⟨h1,h2,h3,h4,h5⟩:=docs_back f _ _ _ h
   obtain ⟨g1,g2,g3,g4⟩:=ev_back h1
   obtain ⟨k1,k2⟩:=num_back g1
   refine ⟨k1,by rw [List.length_cons,h2],?_,⟨by show a<a+(1+_);omega,g4,g3,h4⟩,h5⟩
   rw [blkS]
   dsimp only
   rw [show (a+(1+((numSt 1099511627776 l o).1:Int)) - a - 1).toNat=(numSt 1099511627776 l o).1 by omega]
   rw [List.append_assoc,List.append_assoc,h3,g2,k2]
theorem blk_back {h:Head} {a:Int} {l:List UInt8} {o:Bool} (h0:0≤h.2.2) (hn:0≤h.1) (hb:(blkSt h a l o).2.2=false) (h9:h.2.1≤1099511627776) :
  o=false∧((blkSt h a l o).1.length:Int)=h.1∧blkS a (blkSt h a l o).1++(blkSt h a l o).2.1=l∧isR a (blkSt h a l o).1=true∧FitS (blkSt h a l o).1∧endA a (blkSt h a l o).1=h.2.1∧((blkS a (blkSt h a l o).1).length:Int)=h.2.2:=by
 unfold blkSt at hb ⊢
 by_cases h1:(l.length:Int)<h.2.2
 ·rw [if_pos h1] at hb
  cases hb
 ·rw [if_neg h1] at hb ⊢
  dsimp only at hb ⊢
  by_cases h2:(docsSt h.1.toNat a (l.take h.2.2.toNat) false).2.2.2=true∨(docsSt h.1.toNat a (l.take h.2.2.toNat) false).2.2.1≠[]∨(docsSt h.1.toNat a (l.take h.2.2.toNat) false).2.1≠h.2.1
  ·rw [if_pos h2] at hb
   cases hb
  ·rw [if_neg h2] at hb ⊢
   dsimp only at hb ⊢
   have e1:(docsSt h.1.toNat a (l.take h.2.2.toNat) false).2.2.2=false:=by
    cases hc:(docsSt h.1.toNat a (l.take h.2.2.toNat) false).2.2.2 with
    | false=>rfl
    | true=>exact absurd (.inl hc) h2
   have e2:(docsSt h.1.toNat a (l.take h.2.2.toNat) false).2.2.1=[]:=Classical.byContradiction fun hc=>h2 (.inr (.inl hc))
   have e3:(docsSt h.1.toNat a (l.take h.2.2.toNat) false).2.1=h.2.1:=Classical.byContradiction fun hc=>h2 (.inr (.inr hc))
   obtain ⟨_,k2,k3,k4,k5⟩:=docs_back _ _ _ _ e1
   rw [e2,List.append_nil] at k3
   have k6:=up_is k4 (by rw [k5,e3];exact h9)
   refine ⟨hb,by rw [k2];omega,by rw [k3,List.take_append_drop],k6.1,k6.2,by rw [k5,e3],?_⟩
   rw [k3,List.length_take]
   omega
theorem row_back:∀ (hs:List Head) (a:Int) (l:List UInt8) (o:Bool),(∀ h∈hs,0≤h.1∧0≤h.2.2∧h.2.1≤1099511627776)→(rowSt hs a l o).2.2=false →
  o=false∧headsOf a (rowSt hs a l o).1=hs∧bodies a (rowSt hs a l o).1++(rowSt hs a l o).2.1=l∧isR a (rowSt hs a l o).1.flatten=true∧FitS (rowSt hs a l o).1.flatten
 | [],_,_,_,_,h=>⟨h,rfl,rfl,rfl,fun d hd=>by simp [rowSt] at hd⟩
 | h::hs,a,l,o,hh,hr=>by
   rw [rowSt] at hr ⊢
   dsimp only at hr ⊢
   by_cases h1:(blkSt h a l o).2.2=true
   ·rw [if_pos h1] at hr
    cases hr
   ·rw [if_neg h1] at hr ⊢
    dsimp only at hr ⊢
    obtain ⟨m1,m2,m3⟩:=hh h (by simp)
    have h1:(blkSt h a l o).2.2=false:=by simpa using h1
    obtain ⟨b1,b2,b3,b4,b5,b6,b7⟩:=blk_back m2 m1 h1 m3
    obtain ⟨_,r2,r3,r4,r5⟩:=row_back hs h.2.1 _ _ (fun x hx=>hh x (by simp [hx])) hr
    refine ⟨b1,?_,?_,?_,?_⟩
    ·rw [headsOf,b2,b6,b7,r2]
    ·rw [bodies,b6,List.append_assoc,r3,b3]
    ·rw [List.flatten_cons,isR_app,b6,b4,r4];rfl
    ·intro d hd
     rw [List.flatten_cons] at hd
     rcases List.mem_append.1 hd with hd | hd
     ·exact b5 d hd
     ·exact r5 d hd
theorem heads_back:∀ (f n:Nat) (l:List UInt8) (o:Bool),(n+15) / 16≤f→(headsSt f n l o).2.2=false →
  o=false∧hbytes (headsSt f n l o).1++(headsSt f n l o).2.1=l
 | 0,n,l,o,hf,h=>⟨h,rfl⟩
 | f+1,n,l,o,hf,h=>by
   rw [headsSt] at h ⊢
   by_cases hn:n=0
   ·rw [if_pos hn] at h ⊢
    exact ⟨h,rfl⟩
   ·rw [if_neg hn] at h ⊢
    dsimp only at h ⊢
    obtain ⟨h1,h2⟩:=heads_back f (n - 16) _ _ (by omega) h
    obtain ⟨g1,g2⟩:=num_back h1
    obtain ⟨k1,k2⟩:=num_back g1
    refine ⟨k1,?_⟩
    unfold hbytes at h2 ⊢
    rw [List.flatMap_cons]
    dsimp only
    rw [Int.toNat_natCast,Int.toNat_natCast,List.append_assoc,List.append_assoc,h2,g2,k2]
theorem heads_may:∀ (f n:Nat) (l:List UInt8) (o:Bool),∀ h∈(headsSt f n l o).1,1≤h.1∧0≤h.2.2∧(0≤h.2.1∧h.2.1≤1099511627776)∧h.1≤16∧h.2.2≤l.length
 | 0,n,l,o,h,hh=>by simp [headsSt] at hh
 | f+1,n,l,o,h,hh=>by
   rw [headsSt] at hh
   by_cases hn:n=0
   ·rw [if_pos hn] at hh
    simp at hh
   ·rw [if_neg hn] at hh
    dsimp only at hh
    have e1:=num_rest 1099511627776 l o
    have e2:=num_rest (numSt 1099511627776 l o).2.1.length (numSt 1099511627776 l o).2.1 (numSt 1099511627776 l o).2.2
    have e3:=num_le 1099511627776 l o
    have e4:=num_le (numSt 1099511627776 l o).2.1.length (numSt 1099511627776 l o).2.1 (numSt 1099511627776 l o).2.2
    rcases List.mem_cons.1 hh with rfl | hh
    ·dsimp only
     omega
    ·have:=heads_may f _ _ _ h hh
     omega
theorem heads_six:∀ {f n:Nat} {l:List UInt8} {o:Bool} {bs:List (List Doc)} {a:Int},(n+15) / 16≤f→headsOf a bs=(headsSt f n l o).1→Six n bs
 | 0,n,l,o,[],a,hf,h=>by show n=0;omega
 | 0,n,l,o,c::r,a,hf,h=>by rw [headsOf,headsSt] at h;cases h
 | f+1,n,l,o,[],a,hf,h=>by
   rw [headsSt] at h
   by_cases hn:n=0
   ·exact hn
   ·rw [if_neg hn,headsOf] at h
    cases h
 | f+1,n,l,o,c::r,a,hf,h=>by
   rw [headsSt] at h
   by_cases hn:n=0
   ·rw [if_pos hn,headsOf] at h
    cases h
   ·rw [if_neg hn,headsOf] at h
    dsimp only at h
    simp only [List.cons.injEq,Prod.mk.injEq] at h
    exact ⟨by omega,by omega,heads_six (by omega) h.2⟩
theorem headsOf_snoc:∀ (a:Int) (bs:List (List Doc)) (c:List Doc),headsOf a (bs++[c])=headsOf a bs++[((c.length:Int),(endA (endA a bs.flatten) c,((blkS (endA a bs.flatten) c).length:Int)))]
 | _,[],_=>rfl
 | a,b::bs,c=>by rw [List.cons_append,headsOf,headsOf_snoc,headsOf,List.flatten_cons,endA_app];rfl
theorem chunks_flat (l:List Doc):∀ {k:Nat},k≤blocksN l.length→((List.range k).map (chunkS l)).flatten=l.take (16*k)
 | 0,_=>by simp
 | k+1,h=>by
   rw [List.range_succ,List.map_append,List.flatten_append,chunks_flat l (by omega),show 16*(k+1)=16*k+16 by omega,List.take_add]
   simp [chunkS]
theorem heads_bytes (l:List Doc):∀ {k:Nat},k≤blocksN l.length→hbytes (headsOf 0 ((List.range k).map (chunkS l)))=headsB l 0 k
 | 0,_=>rfl
 | k+1,h=>by
   have hk:16*k≤l.length:=by unfold blocksN at h;omega
   rw [List.range_succ,List.map_append,List.map_singleton,headsOf_snoc,chunks_flat l (by omega),endA_last l hk,chunk_end hk,chunk_bytes hk,headsB_next,← heads_bytes l (k:=k) (by omega)]
   unfold hbytes headB
   rw [List.flatMap_append]
   simp
theorem enc_parts (l:List Doc) {bs:List (List Doc)} (h:bs=(List.range (blocksN l.length)).map (chunkS l)):SM.encS l=bytesL l.length++(hbytes (headsOf 0 bs)++bodies 0 bs)∧bs.flatten=l:=by
 have hf:bs.flatten=l:=by
  rw [h,chunks_flat l (Nat.le_refl _),List.take_of_length_le (by unfold blocksN;omega)]
 refine ⟨?_,hf⟩
 rw [bodies_flat,hf,h,heads_bytes l (Nat.le_refl _)]
 unfold SM.encS
 have:=blk_range (l:=l) 0 (m:=l.length) (by omega)
 rw [List.drop_zero,List.take_length,Nat.zero_add] at this
 rw [← this]
 rfl
theorem six_chunks (l:List Doc):∀ (m k:Nat),k+m=blocksN l.length→Six (l.length - 16*k) ((List.range' k m).map (chunkS l))
 | 0,k,h=>by show l.length - 16*k=0;unfold blocksN at h;omega
 | m+1,k,h=>by
   have hk:16*k<l.length:=by unfold blocksN at h;omega
   rw [List.range'_succ,List.map_cons]
   refine ⟨by omega,?_,?_⟩
   ·rw [chunk_len (by omega)]
    unfold endS
    omega
   ·have:=six_chunks l m (k+1) (by omega)
    rw [show l.length - 16*(k+1)=l.length - 16*k - 16 by omega] at this
    exact this
theorem six_of (l:List Doc):Six l.length ((List.range (blocksN l.length)).map (chunkS l)):=by
 have:=six_chunks l (blocksN l.length) 0 (by omega)
 rw [List.range_eq_range']
 exact this
theorem six_get:∀ {n:Nat} {bs:List (List Doc)},Six n bs→∀ k,k<bs.length→chunkS bs.flatten k=bs.getD k []
 | n,[],_,k,hk=>by simp at hk
 | n,c::r,h,0,_=>by
   obtain ⟨h1,h2,h3⟩:=h
   have hl:=six_len h3
   unfold chunkS
   rw [List.flatten_cons,Nat.mul_zero,List.drop_zero]
   by_cases h16:16≤n
   ·rw [List.take_append_of_le_length (by omega),List.take_of_length_le (by omega)];rfl
   ·have:r.flatten=[]:=List.eq_nil_of_length_eq_zero (by omega)
    rw [this,List.append_nil,List.take_of_length_le (by omega)];rfl
 | n,c::r,h,k+1,hk=>by
   obtain ⟨h1,h2,h3⟩:=h
   have hk':k<r.length:=by simpa using hk
   have h16:c.length=16:=by
    by_cases h16:16≤n
    ·omega
    ·have:=six_count h3
     omega
   have ih:=six_get h3 k hk'
   have e:(c::r).getD (k+1) []=r.getD k []:=by simp
   rw [e,← ih]
   unfold chunkS
   rw [List.flatten_cons,List.drop_append,List.drop_of_length_le (by omega),h16,List.nil_append,show 16*(k+1) - 16=16*k by omega]
theorem six_unique {n:Nat} {bs:List (List Doc)} (h:Six n bs):bs=(List.range (blocksN bs.flatten.length)).map (chunkS bs.flatten):=by
 have h1:=six_len h
 have h2:=six_count h
 refine List.ext_getElem (by rw [List.length_map,List.length_range,h1,h2];rfl) fun i hi hi' => ?_
 rw [List.getElem_map,List.getElem_range,six_get h i hi,List.getD_eq_getElem?_getD,List.getElem?_eq_getElem hi]
 rfl
theorem decC_put {l:List Doc} (h:isS l=true) (hf:FitS l) (hm:(SM.encS l).length<18446744073709551616):decC (SM.encS l)=some l:=by
 obtain ⟨h1,h2⟩:=isS_iff.1 h
 obtain ⟨bs,hbs⟩:∃ bs,bs=(List.range (blocksN l.length)).map (chunkS l):=⟨_,rfl⟩
 obtain ⟨e1,e2⟩:=enc_parts l hbs
 have hs:Six l.length bs:=by rw [hbs];exact six_of l
 have hc:=six_count hs
 rw [e1,List.length_append,List.length_append] at hm
 have g1:=heads_put (f:=4096) (a:=0) (bodies 0 bs) hs (by omega) (by rw [e2];exact h2) (Int.le_refl _) (by omega) (Nat.le_refl _) (by omega)
 have g2:=row_put (a:=0) [] (by rw [e2];exact h2) (by rw [e2];exact hf) (Int.le_refl _)
 rw [List.append_nil] at g2
 have:allSt (SM.encS l)=(bs,[],false):=by
  unfold allSt
  rw [e1,num_put h1 (by omega)]
  dsimp only
  rw [g1]
  exact g2
 unfold decC
 rw [this]
 simp [e2]
theorem decC_back {b:List UInt8} {l:List Doc} (h:decC b=some l):isS l=true∧FitS l∧SM.encS l=b:=by
 unfold decC at h
 by_cases hc:(allSt b).2.2=true∨(allSt b).2.1≠[]
 ·rw [if_pos hc] at h
  cases h
 ·rw [if_neg hc] at h
  obtain rfl:=Option.some.inj h
  have e1:(allSt b).2.2=false:=by
   cases h2:(allSt b).2.2 with
   | false=>rfl
   | true=>exact absurd (.inl h2) hc
  have e2:(allSt b).2.1=[]:=Classical.byContradiction fun h2=>hc (.inr h2)
  unfold allSt at e1 e2 ⊢
  dsimp only at e1 e2 ⊢
  have hn:=num_le 65536 b false
  obtain ⟨n,hnn⟩:∃ n,(numSt 65536 b false).1=n:=⟨_,rfl⟩
  have hmay:=heads_may 4096 (numSt 65536 b false).1 (numSt 65536 b false).2.1 (numSt 65536 b false).2.2
  obtain ⟨r1,r2,r3,r4,r5⟩:=row_back _ _ _ _ (fun x hx=>⟨by have:=(hmay x hx).1;omega,(hmay x hx).2.1,(hmay x hx).2.2.1.2⟩) e1
  obtain ⟨k1,k2⟩:=heads_back 4096 _ _ _ (by omega) r1
  obtain ⟨_,m2⟩:=num_back k1
  have hs:=heads_six (by omega) r2
  rw [e2,List.append_nil] at r3
  obtain ⟨q1,_⟩:=enc_parts _ (six_unique hs)
  refine ⟨isS_iff.2 ⟨by rw [six_len hs];exact hn,r4⟩,r5,?_⟩
  rw [q1,six_len hs,r2,r3,k2,m2]
theorem decC_same {b:List UInt8} (hb:b.length<18446744073709551616):decC b=decS b:=by
 cases h:decS b with
 | some l =>
   obtain ⟨h1,h2,h3⟩:=decS_back h
   rw [← h3]
   exact decC_put h1 h2 (by rw [h3];exact hb)
 | none =>
   cases hc:decC b with
   | none=>rfl
   | some l =>
     obtain ⟨h1,h2,h3⟩:=decC_back hc
     rw [← h3,decS_put h1 h2] at h
     cases h
end Go.Proofs.YtdijhifdjbnkfaaGreat.SR
set_option linter.unusedVariables false
namespace Go.Proofs.YtdijhifdjbnkfaaGreat.SR
open Go Go.RowKit Go.Proofs.YtdijhifdjbnkfaaGreat.MM Go.Proofs.YtdijhifdjbnkfaaGreat.VM Go.Proofs.YtdijhifdjbnkfaaGreat.SM
def headC:Codec Head:=cPair cInt (cPair cInt cInt)
theorem head_on {S:Nat→Prop} {w:World} {cs:List Value} {x:Head}:headC.on S w cs x↔cs=[.int .i64 x.1,.int .i64 x.2.1,.int .i64 x.2.2]:=by
 constructor
 ·rintro ⟨a,b,rfl,ha,c,d,rfl,hc,hd⟩
  have ha:a=[.int .i64 x.1]:=ha
  have hc:c=[.int .i64 x.2.1]:=hc
  have hd:d=[.int .i64 x.2.2]:=hd
  rw [ha,hc,hd];rfl
 ·rintro rfl
  exact ⟨[_],[_,_],rfl,rfl,[_],[_],rfl,rfl,rfl⟩
theorem headE:Elem headC Tryz.prog 231 234 24:=⟨Tryz.underlying231,by
 have h:(Tryz.prog.info? 234).map (fun i=>(i.zero,i.size,i.bytes))=some (some (.agg #[.int .i64 0,.int .i64 0,.int .i64 0]),3,24):=by kernel_rfl
 obtain ⟨i,h1,h2,h3,h4⟩:=info_parts h
 exact ⟨i,_,h1,h2,h3,h4,rfl⟩⟩
theorem head_at {S:Nat→Prop} {w:World} {p:Option Addr} {n cap:Nat} {hs:List Head} (h:ROn headC S w (.slice p n cap) hs) {k:Nat} (hk:k<hs.length) :
  ∃ b off,p=some ⟨b,off,none⟩∧b<w.heap.size∧S b∧w.cell? ⟨b,off+k*3,none⟩=some (.int .i64 hs[k].1)∧w.cell? ⟨b,off+k*3+1,none⟩=some (.int .i64 hs[k].2.1)∧w.cell? ⟨b,off+k*3+2,none⟩=some (.int .i64 hs[k].2.2):=by
 obtain ⟨b,off,vs,hp,hlt,hS,hon,hc⟩:=h.at_ hk
 rw [head_on] at hon
 subst hon
 exact ⟨b,off,hp,hlt,hS,hc 0 _ rfl,hc 1 _ rfl,hc 2 _ rfl⟩
def HeadsLeft (S:Nat→Prop) (g:Nat) (s:List Head×List UInt8×Bool) (w:World) (e:Ending) (w':World):Prop :=
 ∃ u,e=.returned u∧OwnX headC 234 w.heap.size (fun _=>False) w' u s.1∧Rd S w' g s.2.1 s.2.2∧Kep (fun b=>b≠g) w w'
theorem heads_zero (f:Nat) (l:List UInt8) (o:Bool):headsSt f 0 l o=([],l,o):=by cases f<;>simp [headsSt]
theorem heads_next {f n:Nat} {l:List UInt8} {o:Bool} (hn:n≠0):headsSt (f+1) n l o =
  let a:=numSt 1099511627776 l o
  let b:=numSt a.2.1.length a.2.1 a.2.2
  let r:=headsSt f (n - 16) b.2.1 b.2.2
  (((((min n 16:Nat):Int),((a.1:Int),(b.1:Int))):Head)::r.1,r.2):=by
 rw [headsSt,if_neg hn]
set_option maxRecDepth 100000 in
set_option maxHeartbeats 4000000 in
theorem heads_any (S:Nat→Prop) (g:Nat) (l:List UInt8) (o:Bool) (w:World) (h:Rd S w g l o) (hg:¬ S g) (hS:∀ b,S b→b<w.heap.size) (hl:l.length≤1099511627776) :
  Calls Tryz.prog 157 #[.pointer (some ⟨g,0,none⟩)] w (HeadsLeft S g (headsSt 4096 (numSt 65536 l o).1 (numSt 65536 l o).2.1 (numSt 65536 l o).2.2) w):=by
 have hgw:=h.lt
 have HNUM:=Lib.hid (fun m l o W (hm:m≤1099511627776) (h:Rd S W g l o)=>number_any S g m l o W hm h hg)
 have N0:=HNUM.out 65536 l o w (by omega) h
 have hr0:=num_rest 65536 l o
 have hn0:=num_le 65536 l o
 obtain ⟨⟨n,l1,o1⟩,e1⟩:∃ s,numSt 65536 l o=s:=⟨_,rfl⟩
 rw [e1] at N0 hr0 hn0 ⊢
 dsimp only at N0 hr0 hn0 ⊢
 have N0:=Lib.hid N0
 obtain ⟨FIN,hF⟩:∃ f,headsSt 4096 n l1 o1=f:=⟨_,rfl⟩
 have HF0:Hid ((([]:List Head)++(headsSt 4096 ((n:Int).toNat) l1 o1).1,(headsSt 4096 ((n:Int).toNat) l1 o1).2)=FIN):=Lib.hid (by rw [← hF];rfl)
 rw [hF]
 have HSS:=Lib.hid hS
 clear e1 hF h hS
 go_enter Tryz.func157,Tryz.ntmps157
 go_wp2_with fail
 refine N0.out.mono ?_
 rintro e w1 ⟨rfl,h1,k1⟩
 have HR1:=Lib.hid h1
 have HK1:=Lib.hid k1
 have HO1:=Lib.hid (OwnX.nil_ (C:=headC) 234 w.heap.size (fun _=>False) w1)
 clear h1 k1 N0
 go_wp2_with fail
 go_loopw [3,4] (fun lv nv wr=>∃ (z:Int) (acc:List Head) (L:List UInt8) (o:Bool) (f:Nat),nv=.int .i64 z ∧ -16≤z∧z≤65536∧(z.toNat+15) / 16≤f∧acc.length+f=4096∧L.length≤1099511627776∧Hid ((acc++(headsSt f z.toNat L o).1,(headsSt f z.toNat L o).2)=FIN)∧Hid (Rd S wr g L o)∧Hid (OwnX headC 234 w.heap.size (fun _=>False) wr lv acc)∧Hid (Kep (fun b=>b≠g) w wr)) (fun _ nv _=>(intOf nv).toNat)
 case atStart=>exact ⟨n,[],l1,o1,4096,rfl,by omega,by omega,by omega,rfl,by omega,HF0,HR1,HO1,HK1⟩
 case round =>
  obtain ⟨z,acc,L,o,f,rfl,hz1,hz2,hf,hacc,hL,HF,HRD,HO,HK⟩:=hrel
  clear HF0 HR1 HO1 HK1
  have hsw:=HK.out.size
  obtain ⟨pl,cl,rfl,hlc,hlm,_⟩:=HO.out.any.shape
  by_cases hz:0<z
  ·have q1:decide (z>0)=true:=by rw [decide_eq_true_eq];omega
   have q2:decide (0<z)=true:=by rw [decide_eq_true_eq];omega
   obtain ⟨f,rfl⟩:∃ k,f=k+1:=⟨f - 1,by omega⟩
   have hfin:=HF.out
   rw [heads_next (by omega)] at hfin
   dsimp only at hfin
   have C1:=HNUM.out 1099511627776 L o wr (by omega) HRD.out
   have hr1:=num_rest 1099511627776 L o
   have hb1:=num_le 1099511627776 L o
   obtain ⟨⟨a,L1,o1⟩,e1⟩:∃ s,numSt 1099511627776 L o=s:=⟨_,rfl⟩
   rw [e1] at hfin C1 hr1 hb1
   dsimp only at hfin C1 hr1 hb1
   obtain ⟨m,hm⟩:∃ m,L1.length=m:=⟨_,rfl⟩
   have C2:=fun W (h:Rd S W g L1 o1)=>HNUM.out m L1 o1 W (by omega) h
   have hr2:=num_rest m L1 o1
   have hb2:=num_le m L1 o1
   rw [hm] at hfin
   obtain ⟨⟨b,L2,o2⟩,e2⟩:∃ s,numSt m L1 o1=s:=⟨_,rfl⟩
   rw [e2] at hfin C2 hr2 hb2
   dsimp only at hfin C2 hr2 hb2
   obtain ⟨k,hk⟩:∃ k:Nat,min z.toNat 16=k:=⟨_,rfl⟩
   rw [hk] at hfin
   have hmin1:min z 16=(k:Int):=by omega
   have hmin2:(if (16:Int)<z then 16 else z)=(k:Int):=by split<;>omega
   have C1:=Lib.hid C1
   have C2:=Lib.hid C2
   have HFN:Hid ((acc++[(((k:Nat):Int),((a:Int),(b:Int)))]++(headsSt f ((z - 16).toNat) L2 o2).1,(headsSt f ((z - 16).toNat) L2 o2).2)=FIN):=Lib.hid (by
    rw [← hfin,show (z - 16).toNat=z.toNat - 16 by omega]
    simp only [List.append_assoc,List.singleton_append])
   have HL1:=Lib.hid hm
   have hL2:L2.length≤1099511627776:=by omega
   have hw16:IntKind.i64.wrap (z - 16)=z - 16:=by rw [IntKind.wrap_i64];omega
   clear e1 e2 hfin hm HF HRD hk hr1 hr2 hL
   go_wp2_with fail
   refine C1.out.mono ?_
   rintro e w2 ⟨rfl,h2,k2⟩
   have hs2:=k2.size
   have HC2:=Lib.hid (C2.out w2 h2)
   obtain ⟨v0,hc0,hv0⟩:=h2
   obtain ⟨p0,c0,rfl,_⟩:=hv0.shape
   have f0:w2.cell? ⟨g,0,none⟩=some (.slice p0 L1.length c0):=by rw [cell_of_row w2 g 0 _ _ _ hc0];rfl
   rw [HL1.out] at f0
   have HO2:=Lib.hid (HO.out.keep k2 (fun _ _ h=>h.elim) (fun b hb e=>by have:=(HO.out.cells hb).1;omega))
   have HK2:=Lib.hid (HK.out.trans k2)
   clear hc0 hv0 k2 C1 C2 HO HK
   go_wp2_with fail
   refine HC2.out.mono ?_
   rintro e w3 ⟨rfl,h3,k3⟩
   have hs3:=k3.size
   have o3:=HO2.out.keep k3 (fun _ _ h=>h.elim) (fun b hb e=>by have:=(HO2.out.cells hb).1;omega)
   have k03:=HK2.out.trans k3
   obtain ⟨w4,hw4⟩:∃ W,w3.alloc (.cells #[.int .i64 (k:Int),.int .i64 (a:Int),.int .i64 (b:Int)] 234)=W:=⟨_,rfl⟩
   have hb4:Below w3.heap.size w3 w4:=by rw [← hw4];exact (Below.refl _ _).alloc (Nat.le_refl _) _
   have hs4:=hb4.size
   have HO4:=Lib.hid (o3.keep (kep_below (fun _=>True) hb4) (fun _ _ h=>h.elim) (fun _ _=>trivial))
   have hsr:=src_lit (C:=headC) (S:=fun _=>False) (w:=w3) (vs:=[.int .i64 (k:Int),.int .i64 (a:Int),.int .i64 (b:Int)]) (d:=((k:Int),((a:Int),(b:Int)))) 234 (head_on.2 rfl)
   rw [hw4] at hsr
   have HS4:=Lib.hid hsr
   have HR4:=Lib.hid (h3.below hb4)
   have HK4:=Lib.hid (k03.trans (kep_below _ hb4))
   have HW4:=Lib.hid hw4
   have HLT:Hid (acc.length+1≤4096):=Lib.hid (by omega)
   clear hw4 hb4 hsr h3 k3 o3 k03 HO2 HK2 HC2 f0
   go_wp2_with (at_builtin;go_loud (rw [HW4.out];refine wpList_append_x headE rfl _ _ rfl w.heap.size (.slice pl acc.length cl) acc rfl HO4.out (fun _ _ h=>h.elim) _ [((k:Int),((a:Int),(b:Int)))] rfl HS4.out (by unfold maxLen;have:=HLT.out;simp;omega) (by have:=HLT.out;simp;omega) (by omega) ?_;intro v7 w7 ho7 hb7 hk7;obtain ⟨p7,c7,rfl,_⟩:=ho7.any.shape;have HO7:=Lib.hid ho7;have hown:∀ b,(Value.slice pl acc.length cl).ownBlock=some b→w.heap.size≤b:=fun b hb=>(HO4.out.cells hb).1;have HR7:=Lib.hid (HR4.out.keep hk7 (fun e=>by have:=hown _ e;omega) (fun b _ hs e=>by have:=hown _ e;have:=HSS.out b hs;omega));have HK7:=Lib.hid (HK4.out.andThen hk7 fun i hi _ e=>by have:=hown _ e;omega);clear ho7 hb7 hk7 HO4 HS4 HR4 HK4 hown))
   rw [show (acc++[((k:Int),((a:Int),(b:Int)))]).length=acc.length+1 by simp] at HO7
   go_roundw
   case rel=>exact ⟨z - 16,acc++[((k:Int),((a:Int),(b:Int)))],L2,o2,f,rfl,by omega,by omega,by omega,by simp;omega,hL2,HFN,HR7,HO7,HK7⟩
   case measure=>simp [intOf];omega
  ·have q1:decide (z>0)=false:=by rw [decide_eq_false_iff_not];omega
   have q2:decide (0<z)=false:=by rw [decide_eq_false_iff_not];omega
   have hfin:=HF.out
   rw [show z.toNat=0 by omega,heads_zero,List.append_nil] at hfin
   subst hfin
   clear HF hz
   go_wp2_with fail
   go_ret
   exact ⟨_,rfl,HO.out,HRD.out,HK.out⟩
end Go.Proofs.YtdijhifdjbnkfaaGreat.SR
set_option linter.unusedVariables false
namespace Go.Proofs.YtdijhifdjbnkfaaGreat.SR
open Go Go.RowKit Go.Proofs.YtdijhifdjbnkfaaGreat.MM Go.Proofs.YtdijhifdjbnkfaaGreat.VM Go.Proofs.YtdijhifdjbnkfaaGreat.SM
open Go.Proofs.YtdijhifdjbnkfaaGreat.EM (Fld Ev)
open Go.Proofs.YtdijhifdjbnkfaaGreat.EV (fldC fldE fld_src docC docE doc_on doc_at IsF NewF newf_keep)
theorem infoDoc3:(Tryz.prog.info? 59).map (·.size)=some 3:=by kernel_rfl
def ClonF (fs:List Fld) (w:World) (e:Ending) (w':World):Prop:=∃ u,e=.returned u∧ROn fldC (NewF w w') w' u fs∧Below w.heap.size w w'
set_option maxRecDepth 100000 in
set_option maxHeartbeats 1000000 in
theorem fclone_any (v:Value) (fs:List Fld) (w:World) (hr:RAny fldC w v fs) (hl:fs.length≤100000):Calls Tryz.prog 116 #[v] w (ClonF fs w):=by
 obtain ⟨p,cap,rfl,hlc,hcm,hn⟩:=hr.shape
 have hq:=fun (w:World) (a:Option Addr) (n c:Nat)=>Lib.run_eql_slice_nil (P:=Tryz.prog) w 55 123 a n c 0 0 Tryz.underlying55
 cases p with
 | none =>
   have h0:=hn rfl
   subst h0
   have hf:fs=[]:=List.eq_nil_of_length_eq_zero (by omega)
   subst hf
   clear hr
   go_enter Tryz.func116,Tryz.ntmps116
   go_wp2_with fail
   go_ret
   exact ⟨_,rfl,ROn.nil_ _ _,Below.refl _ _⟩
 | some ad =>
   have hb0:Below w.heap.size w (w.alloc (.cells #[] 123)):=(Below.refl _ _).alloc (Nat.le_refl _) _
   have HO0:=Lib.hid (OwnX.lit0 (C:=fldC) 123 (fun _=>False) w (Nat.le_refl _))
   have HS:=Lib.hid (fld_src (S':=fun _=>False) (RAny.below hr hb0))
   have HB0:=Lib.hid hb0
   clear hr hb0
   go_enter Tryz.func116,Tryz.ntmps116
   go_wp2_with (at_builtin;go_loud (refine wpList_append_x fldE rfl _ _ rfl w.heap.size _ [] rfl HO0.out (fun b _ hb=>hb.elim) _ fs rfl HS.out (by unfold maxLen;simp;omega) (by simp;omega) (by simp) ?_;intro v' w4 ho4 hb4 _;rw [List.nil_append] at ho4;obtain ⟨q4,c4,rfl,_⟩:=ho4.any.shape;have HO4:=Lib.hid ho4;have HB4:=Lib.hid (HB0.out.trans hb4);clear ho4 hb4))
   go_ret
   exact ⟨_,rfl,HO4.out.ron (fun g hg=>⟨(HO4.out.cells hg).1,(HO4.out.cells hg).2.2⟩) (fun _ _ h=>h.elim),HB4.out⟩
end Go.Proofs.YtdijhifdjbnkfaaGreat.SR
set_option linter.unusedVariables false
namespace Go.Proofs.YtdijhifdjbnkfaaGreat.SG
open Go Go.RowKit Go.Proofs.YtdijhifdjbnkfaaGreat.MM
open Go.Proofs.YtdijhifdjbnkfaaGreat.EM (Fld Ev)
open Go.Proofs.YtdijhifdjbnkfaaGreat.EV (fldC docC doc_at NewF newf_keep)
open Go.Proofs.YtdijhifdjbnkfaaGreat.SM (Doc noDoc)
open Go.Proofs.YtdijhifdjbnkfaaGreat.SR (fclone_any infoDoc3)
def AtLeft (o:Option Doc) (w:World) (e:Ending) (w':World):Prop :=
 ∃ u,e=.returned (.tuple #[.agg #[.int .i64 (o.getD noDoc).1,.int .i64 (o.getD noDoc).2.1,u],.bool o.isSome])∧ROn fldC (NewF w w') w' u (o.getD noDoc).2.2∧Below w.heap.size w w'
def atG (l:List Doc) (i:Int):Option Doc:=if 0≤i∧i<(l.length:Int) then l[i.toNat]? else none
def Wide (l:List Doc):Prop:=∀ d∈l,d.2.2.length≤100000
set_option maxRecDepth 100000 in
set_option maxHeartbeats 2000000 in
theorem at_bad (v:Value) (l:List Doc) (i:Int) (w:World) (hv:RAny docC w v l) (hi:¬ (0≤i∧i<(l.length:Int))):Calls Tryz.prog 65 #[v,.int .i64 i] w (AtLeft none w):=by
 obtain ⟨p,cap,rfl,hlc,hcm,_⟩:=hv.shape
 unfold maxLen at hcm
 have T0:=Lib.hid (three_new w 59 (.int .i64 0) (.int .i64 0) (.slice none 0 0))
 have HQ:Hid (AtLeft none w (.returned (.tuple #[.agg #[.int .i64 0,.int .i64 0,.slice none 0 0],.bool false])) (w.alloc (.cells #[.int .i64 0,.int .i64 0,.slice none 0 0] 59))):=Lib.hid ⟨_,rfl,ROn.nil_ _ _,(Below.refl _ _).alloc (Nat.le_refl _) _⟩
 clear hv
 by_cases h0:i<0
 ·have t0:decide (i<0)=true:=decide_eq_true h0
  clear hi h0
  go_enter Tryz.func65,Tryz.ntmps65
  go_wp2_with fail
  refine bodyPost_ret (results_three2 (p:=4) (u:=5) rfl Tryz.underlying59 rfl infoDoc3 _ _ w.heap.size _ _ _ rfl T0.out) rfl HQ.out
 ·have t0:decide (i<0)=false:=decide_eq_false h0
  have h1:(l.length:Int)≤i:=by omega
  have t1:decide (i≥(l.length:Int))=true:=decide_eq_true h1
  have t2:decide ((l.length:Int)≤i)=true:=decide_eq_true h1
  clear hi h0 h1
  go_enter Tryz.func65,Tryz.ntmps65
  go_wp2_with fail
  refine bodyPost_ret (results_three2 (p:=4) (u:=5) rfl Tryz.underlying59 rfl infoDoc3 _ _ w.heap.size _ _ _ rfl T0.out) rfl HQ.out
set_option maxRecDepth 100000 in
set_option maxHeartbeats 2000000 in
theorem at_good (v:Value) (l:List Doc) (k:Nat) (w:World) (hv:RAny docC w v l) (hF:Wide l) (hk:k<l.length):Calls Tryz.prog 65 #[v,.int .i64 k] w (AtLeft (some l[k]) w):=by
 obtain ⟨p,cap,rfl,hlc,hcm,_⟩:=hv.shape
 unfold maxLen at hcm
 have hw:=hF _ (List.getElem_mem hk)
 have hb0:Below w.heap.size w (w.alloc (.cells #[.int .i64 0,.int .i64 0,.slice none 0 0] 59)):=(Below.refl _ _).alloc (Nat.le_refl _) _
 obtain ⟨b,off,vf,rfl,hbl,_,c1,c2,c3,hf⟩:=doc_at (hv.below hb0) hk
 obtain ⟨⟨sq,⟨t,fs⟩⟩,hd⟩:∃ d,l[k]=d:=⟨_,rfl⟩
 rw [hd] at c1 c2 hf hw ⊢
 dsimp only at c1 c2 hf hw
 obtain ⟨pf,cf,rfl,_⟩:=hf.shape
 have t0:decide ((k:Int)<0)=false:=by rw [decide_eq_false_iff_not];omega
 have t1:decide ((k:Int)≥(l.length:Int))=false:=by rw [decide_eq_false_iff_not];omega
 have t2:decide ((l.length:Int)≤(k:Int))=false:=by rw [decide_eq_false_iff_not];omega
 have t3:(k:Int)<(l.length:Int):=by omega
 have t4:decide (l.length≤k)=false:=by rw [decide_eq_false_iff_not];omega
 obtain ⟨R,hR⟩:∃ R,w.heap.size=R:=⟨_,rfl⟩
 obtain ⟨wa,hwa⟩:∃ wa,(w.alloc (.cells #[.int .i64 0,.int .i64 0,.slice none 0 0] 59)).alloc (.cells #[.int .i64 sq,.int .i64 t,.slice pf fs.length cf] 59)=wa:=⟨_,rfl⟩
 have hba:Below w.heap.size w wa:=by rw [← hwa];exact hb0.alloc (by simp) _
 have hsa:wa.heap.size=R+2:=by rw [← hwa,← hR];simp
 have T0:Hid (Three wa R 59 (.int .i64 0) (.int .i64 0) (.slice none 0 0)):=Lib.hid (by rw [← hwa,← hR];exact (three_new w 59 _ _ _).keep (kep_alloc (fun _=>True) _ _) trivial)
 have T1:Hid (Three wa (R+1) 59 (.int .i64 sq) (.int .i64 t) (.slice pf fs.length cf)):=Lib.hid (by
  have:=three_new (w.alloc (.cells #[.int .i64 0,.int .i64 0,.slice none 0 0] 59)) 59 (.int .i64 sq) (.int .i64 t) (.slice pf fs.length cf)
  rw [hwa,World.size_alloc,hR] at this
  exact this)
 have HC:=Lib.hid (fclone_any (.slice pf fs.length cf) fs wa (hf.any.below (by rw [← hwa];exact (Below.refl _ _).alloc (Nat.le_refl _) _)) hw)
 have HBA:=Lib.hid hba
 have HWA:=Lib.hid hwa
 have HSA:=Lib.hid hsa
 clear hv hf hba hwa hsa hb0 hd hF hw
 go_enter Tryz.func65,Tryz.ntmps65
 go_wp2_with fail
 rw [HWA.out]
 refine HC.out.mono ?_
 rintro e w4 ⟨u,rfl,hu,hb4⟩
 obtain ⟨pu,cu,rfl,_⟩:=hu.shape
 have hsa:=HSA.out
 have a0:=T0.out.below hb4 (by omega)
 have a1:=T1.out.below hb4 (by omega)
 have f1:=a1.fr 2
 have g1:=a1.c2
 have b1:=a1.s2 (.slice pu fs.length cu)
 have hk5:Kep (fun b=>b≠R+1) w4 (w4.setCell ⟨R+1,2,none⟩ (.slice pu fs.length cu)):=kep_set (fun h=>h rfl) _
 have b0:=a0.keep hk5 (by omega)
 obtain ⟨x0,x1,x2⟩:=b1.cells
 obtain ⟨y0,y1,y2⟩:=b0.cells
 obtain ⟨m1,m2,m3,⟨k1,k2⟩,k3,k4⟩:=b0.all (.int .i64 sq) (.int .i64 t)
 have HX:=Lib.hid (b0.set (.int .i64 sq) (.int .i64 t) (.slice pu fs.length cu))
 have hk6:Kep (fun b=>b≠R) (w4.setCell ⟨R+1,2,none⟩ (.slice pu fs.length cu)) (set3 (w4.setCell ⟨R+1,2,none⟩ (.slice pu fs.length cu)) R (.int .i64 sq) (.int .i64 t) (.slice pu fs.length cu)):=kep_set3 _ _ _
 have hk7:Kep (fun b=>b≠R∧b≠R+1) w4 (set3 (w4.setCell ⟨R+1,2,none⟩ (.slice pu fs.length cu)) R (.int .i64 sq) (.int .i64 t) (.slice pu fs.length cu)):=(hk5.mono fun b hb=>hb.2).trans (hk6.mono fun b hb=>hb.1)
 have HQ:Hid (AtLeft (some (sq,(t,fs))) w (.returned (.tuple #[.agg #[.int .i64 sq,.int .i64 t,.slice pu fs.length cu],.bool true])) (set3 (w4.setCell ⟨R+1,2,none⟩ (.slice pu fs.length cu)) R (.int .i64 sq) (.int .i64 t) (.slice pu fs.length cu))):=Lib.hid
  ⟨_,rfl,(newf_keep hu hk7 (fun b hb=>⟨by omega,by omega⟩)).weak fun b _ hb=>⟨by have:=hb.1;omega,hb.2⟩,
   ((HBA.out.trans (hb4.mono (by omega))).trans (hk7.below (by have:=hb4.size;omega) fun k hk=>⟨by omega,by omega⟩))⟩
 clear hu hb4 a0 a1 b1 hk5 hk6 hk7 b0 HC T0 T1 HBA HWA HSA c1 c2 c3
 go_wp2_with fail
 refine bodyPost_ret (results_three2 (p:=4) (u:=5) rfl Tryz.underlying59 rfl infoDoc3 _ _ R _ _ _ rfl HX.out) rfl HQ.out
theorem at_any (v:Value) (l:List Doc) (i:Int) (w:World) (hv:RAny docC w v l) (hF:Wide l):Calls Tryz.prog 65 #[v,.int .i64 i] w (AtLeft (atG l i) w):=by
 unfold atG
 by_cases hi:0≤i∧i<(l.length:Int)
 ·obtain ⟨k,rfl⟩:=Int.eq_ofNat_of_zero_le hi.1
  have hk:k<l.length:=by have:=hi.2;omega
  rw [if_pos hi,show ((k:Int)).toNat=k from Int.toNat_natCast k,List.getElem?_eq_getElem hk]
  exact at_good v l k w hv hF hk
 ·rw [if_neg hi]
  exact at_bad v l i w hv hi
end Go.Proofs.YtdijhifdjbnkfaaGreat.SG
