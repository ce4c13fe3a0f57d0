import Derived.Test.YtdijhifdjbnkfaaGreatZD2
set_option maxRecDepth 100000
set_option maxHeartbeats 8000000
set_option linter.unusedVariables false
set_option linter.unusedSimpArgs false
namespace Go.Proofs.YtdijhifdjbnkfaaGreat.VM
def ZdZ:Nat→Nat→List UInt8
 | 0,n=>[UInt8.ofNat n]
 | k+1,n=>if n<128 then [UInt8.ofNat n] else UInt8.ofNat (n%128+128)::ZdZ k (n / 128)
def Zd8 (n:Nat):List UInt8:=ZdZ 9 n
theorem Zd4:∀ (k n:Nat),n<128^(k+1)→ZdZ (k+1) n=ZdZ k n
 | 0,n,h=>by
   have h2:n<128:=by simpa using h
   simp [ZdZ,h2]
 | k+1,n,h=>by
   have e1:ZdZ (k+2) n=if n<128 then [UInt8.ofNat n] else UInt8.ofNat (n%128+128)::ZdZ (k+1) (n / 128):=rfl
   have e2:ZdZ (k+1) n=if n<128 then [UInt8.ofNat n] else UInt8.ofNat (n%128+128)::ZdZ k (n / 128):=rfl
   rw [e1,e2,Zd4 k (n / 128) (by rw [Nat.div_lt_iff_lt_mul (by omega)];rw [Nat.pow_succ] at h;exact h)]
theorem Zec {n:Nat} (h:n<128):Zd8 n=[UInt8.ofNat n]:=by
 unfold Zd8
 rw [show (9:Nat)=8+1 from rfl,ZdZ,if_pos h]
theorem Zd9 {n:Nat} (h:¬ n<128) (hn:n<18446744073709551616):Zd8 n=UInt8.ofNat (n%128+128)::Zd8 (n / 128):=by
 have e:ZdZ 9 (n / 128)=ZdZ 8 (n / 128):=Zd4 8 _ (by have:(128:Nat)^(8+1)=9223372036854775808:=by decide
                                                     omega)
 unfold Zd8
 rw [e,show (9:Nat)=8+1 from rfl,ZdZ,if_neg h]
theorem Zd3:∀ (k n:Nat),1≤(ZdZ k n).length∧(ZdZ k n).length≤k+1
 | 0,n=>by simp [ZdZ]
 | k+1,n=>by
   unfold ZdZ
   have:=Zd3 k (n / 128)
   split<;>simp<;>omega
theorem Zea (n:Nat):1≤(Zd8 n).length∧(Zd8 n).length≤10:=Zd3 9 n
theorem ZsY {P:Nat→Prop} (h0:∀ n,n<128→P n) (h1:∀ n,¬ n<128→P (n / 128)→P n) (n:Nat):P n:=by
 induction n using Nat.strongRecOn with
 | ind n ih =>
   by_cases h:n<128
   ·exact h0 n h
   ·exact h1 n h (ih _ (by omega))
def getF:Nat→Nat→List UInt8→Nat×Nat×Int
 | _,_,[]=>(0,0,6)
 | i,n,c::l=>if (i=9∧1<c.toNat)∨(0<i∧c.toNat=0) then (0,0,20) else if c.toNat<128 then (n+c.toNat%128*2^(7*i),i+1,0) else getF (i+1) (n+c.toNat%128*2^(7*i)) l
def getL (l:List UInt8):Nat×Nat×Int:=getF 0 0 l
theorem Zj9 (i n:Nat):getF i n []=(0,0,6):=by rw [getF]
theorem Zj5 {i n:Nat} {c:UInt8} {l:List UInt8} (h:(i=9∧1<c.toNat)∨(0<i∧c.toNat=0)):getF i n (c::l)=(0,0,20):=by rw [getF,if_pos h]
theorem Zj7 {i n:Nat} {c:UInt8} {l:List UInt8} (h:¬ ((i=9∧1<c.toNat)∨(0<i∧c.toNat=0))) (h2:c.toNat<128):getF i n (c::l)=(n+c.toNat%128*2^(7*i),i+1,0):=by rw [getF,if_neg h,if_pos h2]
theorem Zj8 {i n:Nat} {c:UInt8} {l:List UInt8} (h:¬ ((i=9∧1<c.toNat)∨(0<i∧c.toNat=0))) (h2:¬ c.toNat<128):getF i n (c::l)=getF (i+1) (n+c.toNat%128*2^(7*i)) l:=by rw [getF,if_neg h,if_neg h2]
theorem pow7 (i:Nat):2^(7*(i+1))=128*2^(7*i):=by
 rw [Nat.mul_add,Nat.pow_add];omega
theorem Zj0 {i n:Nat} (hn:n<2^(7*i)) (c:Nat):n+c%128*2^(7*i)<2^(7*(i+1)):=by
 rw [pow7]
 have h1:c%128≤127:=by omega
 have h2:=Nat.mul_le_mul_right (2^(7*i)) h1
 omega
theorem ZrJ {i j:Nat} (h:i≤j):2^(7*i)≤2^(7*j):=Nat.pow_le_pow_right (by omega) (by omega)
theorem pow9:2^(7*9)=9223372036854775808:=by decide
theorem ZjZ {i n:Nat} (hn:n<2^(7*i)) (hi:i≤9) {c:UInt8} (h:¬ ((i=9∧1<c.toNat)∨(0<i∧c.toNat=0))):n+c.toNat%128*2^(7*i)<18446744073709551616:=by
 by_cases h9:i=9
 ·subst h9
  have hc:c.toNat=1:=by omega
  rw [pow9] at hn ⊢
  rw [hc]
  omega
 ·have h1:=Zj0 hn c.toNat
  have h2:2^(7*(i+1))≤2^(7*9):=ZrJ (by omega)
  rw [pow9] at h2
  omega
theorem Zj1 {i:Nat} (hi:i≤9) {c:UInt8} (h:¬ ((i=9∧1<c.toNat)∨(0<i∧c.toNat=0))) (h2:¬ c.toNat<128):i+1≤9:=by
 by_cases h9:i=9<;>omega
theorem Zj6:∀ (l:List UInt8) (i n:Nat),i≤9→n<2^(7*i) →
  (getF i n l).1<18446744073709551616∧(getF i n l).2.1≤i+l.length∧((getF i n l).2.2=0∨(getF i n l=(0,0,6)∨getF i n l=(0,0,20)))∧((getF i n l).2.2=0→1≤(getF i n l).2.1)
 | [],i,n,_,_=>by rw [Zj9];simp
 | c::l,i,n,hi,hn=>by
   by_cases h:(i=9∧1<c.toNat)∨(0<i∧c.toNat=0)
   ·rw [Zj5 h];simp
   ·by_cases h2:c.toNat<128
    ·rw [Zj7 h h2]
     refine ⟨ZjZ hn hi h,by simp,.inl rfl,fun _=>by simp⟩
    ·rw [Zj8 h h2]
     have:=Zj6 l (i+1) _ (Zj1 hi h h2) (Zj0 hn c.toNat)
     rw [List.length_cons]
     exact ⟨this.1,by omega,this.2.2.1,this.2.2.2⟩
theorem Zkh (l:List UInt8):(getL l).1<18446744073709551616∧(getL l).2.1≤l.length∧((getL l).2.2=0∨(getL l=(0,0,6)∨getL l=(0,0,20)))∧((getL l).2.2=0→1≤(getL l).2.1):=by
 have:=Zj6 l 0 0 (by omega) (by omega)
 rw [Nat.zero_add] at this
 exact this
theorem ZxL {n:Nat} (h:n<256):(UInt8.ofNat n).toNat=n:=by simp;omega
theorem Zka (n:Nat):∀ (i acc:Nat) (l:List UInt8),i≤9→acc+n*2^(7*i)<18446744073709551616→(i=0∨0<n) →
  getF i acc (Zd8 n++l)=(acc+n*2^(7*i),i+(Zd8 n).length,0):=by
 refine ZsY (P:=fun n=>∀ (i acc:Nat) (l:List UInt8),i≤9→acc+n*2^(7*i)<18446744073709551616→(i=0∨0<n) →
  getF i acc (Zd8 n++l)=(acc+n*2^(7*i),i+(Zd8 n).length,0)) ?_ ?_ n
 ·intro n h i acc l hi hf h0
  have hc:(UInt8.ofNat n).toNat=n:=ZxL (by omega)
  rw [Zec h,List.singleton_append,Zj7]
  ·rw [hc,Nat.mod_eq_of_lt h];rfl
  ·rw [hc]
   rintro (⟨h9,h1⟩ | ⟨h9,h1⟩)
   ·subst h9
    rw [pow9] at hf
    omega
   ·omega
  ·omega
 ·intro n h ih i acc l hi hf h0
  have hbig:n<18446744073709551616:=by
   have:1≤2^(7*i):=Nat.one_le_two_pow
   have:=Nat.mul_le_mul_left n this
   omega
  have hc:(UInt8.ofNat (n%128+128)).toNat=n%128+128:=ZxL (by omega)
  have hi8:i+1≤9:=by
   by_cases h9:i=9
   ·subst h9
    rw [pow9] at hf
    omega
   ·omega
  have e1:n*2^(7*i)=n%128*2^(7*i)+n / 128*(128*2^(7*i)):=by
   have h2:n=n%128+n / 128*128:=by omega
   rw [← Nat.mul_assoc,← Nat.add_mul,← h2]
  have hn:acc+n%128*2^(7*i)+n / 128*2^(7*(i+1))=acc+n*2^(7*i):=by
   rw [pow7,e1,Nat.add_assoc]
  rw [Zd9 h hbig,List.cons_append,Zj8]
  ·rw [hc,show (n%128+128)%128=n%128 by omega,ih (i+1) _ l hi8 (by rw [hn];exact hf) (.inr (by omega)),hn,List.length_cons]
   simp only [Prod.mk.injEq,true_and,and_true]
   omega
  ·rw [hc];omega
  ·rw [hc];omega
theorem Zkj (n:Nat) (hn:n<18446744073709551616) (l:List UInt8):getL (Zd8 n++l)=(n,(Zd8 n).length,0):=by
 have:=Zka n 0 0 l (by omega) (by omega) (.inl rfl)
 rw [Nat.zero_add,Nat.zero_add,Nat.mul_zero,Nat.pow_zero,Nat.mul_one] at this
 exact this
theorem Zj4:∀ (l:List UInt8) (i acc n k:Nat),i≤9→acc<2^(7*i)→getF i acc l=(n,k,0)→∃ m,n=acc+m*2^(7*i)∧i<k∧k≤i+l.length∧Zd8 m=l.take (k - i)∧(0<i→0<m)
 | [],i,acc,n,k,_,_,h=>by rw [Zj9] at h;simp at h
 | c::l,i,acc,n,k,hi,ha,h=>by
   by_cases hb:(i=9∧1<c.toNat)∨(0<i∧c.toNat=0)
   ·rw [Zj5 hb] at h;simp at h
   ·by_cases h2:c.toNat<128
    ·rw [Zj7 hb h2] at h
     simp only [Prod.mk.injEq,and_true] at h
     obtain ⟨rfl,rfl⟩:=h
     refine ⟨c.toNat,by rw [Nat.mod_eq_of_lt h2],by omega,by rw [List.length_cons];omega,?_,by omega⟩
     rw [Zec h2,show i+1 - i=1 by omega,List.take_succ_cons,List.take_zero]
     simp
    ·rw [Zj8 hb h2] at h
     have hi2:=Zj1 hi hb h2
     obtain ⟨m,hm,hk,hkl,hbm,h0⟩:=Zj4 l (i+1) _ n k hi2 (Zj0 ha c.toNat) h
     have hc:=c.toNat_lt
     have hfit:=(Zj6 l (i+1) _ hi2 (Zj0 ha c.toNat)).1
     rw [h] at hfit
     have hmp:=h0 (by omega)
     have hN:c.toNat%128+128*m<18446744073709551616:=by
      have h1:1≤2^(7*i):=Nat.one_le_two_pow
      have h3:=Nat.mul_le_mul_left (c.toNat%128) h1
      have h4:=Nat.mul_le_mul_left (m*128) h1
      rw [pow7,← Nat.mul_assoc] at hm
      have hfit':n<18446744073709551616:=hfit
      omega
     refine ⟨c.toNat%128+128*m,?_,by omega,by rw [List.length_cons];omega,?_,by omega⟩
     ·rw [hm,pow7,Nat.add_mul,Nat.add_assoc,Nat.mul_comm 128 m,Nat.mul_assoc]
     ·have hnb:¬ c.toNat%128+128*m<128:=by omega
      rw [Zd9 hnb hN,show (c.toNat%128+128*m) / 128=m by omega,hbm,show k - i=(k - (i+1))+1 by omega,List.take_succ_cons,show (c.toNat%128+128*m)%128+128=c.toNat by omega]
      simp
theorem Zkg {l:List UInt8} {n k:Nat} (h:getL l=(n,k,0)):Zd8 n++l.drop k=l:=by
 obtain ⟨m,hm,_,_,hb,_⟩:=Zj4 l 0 0 n k (by omega) (by omega) h
 rw [Nat.zero_add,Nat.mul_zero,Nat.pow_zero,Nat.mul_one] at hm
 rw [hm,hb,Nat.sub_zero,List.take_append_drop]
def zig (n:Int):Nat:=if 0≤n then (2*n).toNat else (-2*n - 1).toNat
def zag (u:Nat):Int:=if u%2=0 then ((u / 2:Nat):Int) else -1 - ((u / 2:Nat):Int)
theorem ZzM (n:Int):zag (zig n)=n:=by unfold zag zig;split<;>split<;>omega
theorem ZzT {n:Int} (h0 : -9223372036854775808≤n) (h1:n≤9223372036854775807):zig n<18446744073709551616:=by unfold zig;split<;>omega
theorem ZzL {u:Nat} (h:u<18446744073709551616) : -9223372036854775808≤zag u∧zag u≤9223372036854775807:=by unfold zag;split<;>omega
def intL (n:Int):List UInt8:=Zd8 (zig n)
def getI (l:List UInt8):Int×Nat×Int:=(zag (getL l).1,(getL l).2.1,(getL l).2.2)
theorem Zke (l:List UInt8):(-9223372036854775808≤(getI l).1∧(getI l).1≤9223372036854775807)∧(getI l).2.1≤l.length∧((getI l).2.2=0∨(getI l=(0,0,6)∨getI l=(0,0,20)))∧((getI l).2.2=0→1≤(getI l).2.1):=by
 have h:=Zkh l
 refine ⟨ZzL h.1,h.2.1,?_,h.2.2.2⟩
 rcases h.2.2.1 with h0 | h0 | h0
 ·exact .inl h0
 ·refine .inr (.inl ?_);unfold getI;rw [h0];rfl
 ·refine .inr (.inr ?_);unfold getI;rw [h0];rfl
theorem Zkf (n:Int) (h0 : -9223372036854775808≤n) (h1:n≤9223372036854775807) (l:List UInt8):getI (intL n++l)=(n,(intL n).length,0):=by
 unfold getI intL
 rw [Zkj _ (ZzT h0 h1),ZzM]
def Zxu (s:List UInt8):List UInt8:=Zd8 s.length++s
def getT (l:List UInt8) (most:Int):List UInt8×Nat×Int :=
 if (getL l).2.2≠0 then ([],0,(getL l).2.2)
 else if max 0 most<((getL l).1:Int) then ([],0,2)
 else if l.length - (getL l).2.1<(getL l).1 then ([],0,6)
 else ((l.drop (getL l).2.1).take (getL l).1,(getL l).2.1+(getL l).1,0)
theorem ZkB (s:List UInt8) (hs:s.length<18446744073709551616) (most:Int) (hm:(s.length:Int)≤most) (l:List UInt8):getT (Zxu s++l) most=(s,(Zxu s).length,0):=by
 unfold getT Zxu
 rw [List.append_assoc,Zkj _ hs]
 have e1:¬ ((0:Int)≠0):=by simp
 have e2:¬ max 0 most<(s.length:Int):=by omega
 have e3:¬ (Zd8 s.length++(s++l)).length - (Zd8 s.length).length<s.length:=by simp
 simp only []
 rw [if_neg e1,if_neg e2,if_neg e3,List.drop_left,List.take_left,List.length_append]
def allL (zs:List Int):List UInt8:=(zs.map intL).flatten
theorem Zca (zs:List Int) (k:Nat) (hk:k<zs.length):allL (zs.take (k+1))=allL (zs.take k)++intL (zs.getD k 0):=by
 unfold allL
 rw [List.take_succ_eq_append_getElem hk,List.map_append,List.flatten_append]
 simp [List.getD,hk]
theorem Zb9 (zs:List Int):(allL zs).length≤10*zs.length:=by
 induction zs with
 | nil=>simp [allL]
 | cons z zs ih =>
   have:allL (z::zs)=intL z++allL zs:=by simp [allL]
   rw [this,List.length_append,List.length_cons]
   have:=(Zea (zig z)).2
   unfold intL
   omega
end Go.Proofs.YtdijhifdjbnkfaaGreat.VM
namespace Go.Proofs.YtdijhifdjbnkfaaGreat.PM
open VM
abbrev Post:=Int×List Int
def Ztj (fin:Int):Int→List Int→Bool
 | _,[]=>true
 | a,z::zs=>decide (a<z)&&decide (z<fin)&&Ztj fin z zs
def Zto (fin:Int) (zs:List Int):Bool:=Ztj fin (-1) zs
def ZrM (a:Int) (zs:List Int):Nat→Int
 | 0=>a
 | k+1=>zs.getD k 0
theorem Ztk (fin:Int):∀ (zs:List Int) (a:Int),Ztj fin a zs=true↔∀ k,k<zs.length→ZrM a zs k<zs.getD k 0∧zs.getD k 0<fin
 | [],a=>by simp [Ztj]
 | z::zs,a=>by
   rw [Ztj,Bool.and_eq_true,Bool.and_eq_true,decide_eq_true_eq,decide_eq_true_eq,Ztk fin zs z]
   constructor
   ·rintro ⟨⟨h1,h2⟩,h3⟩ k hk
    cases k with
    | zero=>exact ⟨h1,h2⟩
    | succ k =>
      have:=h3 k (by simpa using hk)
      cases k with
      | zero=>exact this
      | succ k=>exact this
   ·intro h
    refine ⟨h 0 (by simp),fun k hk => ?_⟩
    have:=h (k+1) (by simpa using hk)
    cases k with
    | zero=>exact this
    | succ k=>exact this
theorem Ztp (fin:Int) (zs:List Int):Zto fin zs=true↔∀ k,k<zs.length→ZrM (-1) zs k<zs.getD k 0∧zs.getD k 0<fin:=Ztk fin zs (-1)
theorem Ztl (fin:Int):∀ (zs:List Int) (a:Int),Ztj fin a zs=true→zs≠[]→(zs.length:Int)≤fin - a - 1
 | [],_,_,h=>absurd rfl h
 | [z],a,h,_=>by simp [Ztj] at h;simp;omega
 | z::y::zs,a,h,_=>by
   rw [Ztj,Bool.and_eq_true,Bool.and_eq_true,decide_eq_true_eq] at h
   have:=Ztl fin (y::zs) z h.2 (by simp)
   rw [List.length_cons,Int.natCast_add]
   omega
def oddL (p:Post):Bool:=p.2.isEmpty || !Zto 1048576 p.2
def Zgu (ps:List Post):List Int:=ps.map (·.1)
def isL (ps:List Post):Bool:=Zto 65536 (Zgu ps) && !ps.any oddL
theorem Zmx (ps:List Post):isL ps=true↔Zto 65536 (Zgu ps)=true∧∀ p∈ps,p.2≠[]∧Zto 1048576 p.2=true:=by
 unfold isL
 rw [Bool.and_eq_true,Bool.not_eq_true',List.any_eq_false]
 constructor
 ·rintro ⟨h1,h2⟩
  refine ⟨h1,fun p hp => ?_⟩
  have:=h2 p hp
  unfold oddL at this
  simp at this
  exact ⟨by simpa using this.1,this.2⟩
 ·rintro ⟨h1,h2⟩
  refine ⟨h1,fun p hp => ?_⟩
  have:=h2 p hp
  unfold oddL
  simp [this.1,this.2]
def okP (n:Int) (p:Post):Prop:=n≤p.1∧p.1<65536∧p.2≠[]∧Zto 1048576 p.2=true
def okL:Int→List Post→Prop
 | _,[]=>True
 | n,p::ps=>okP n p∧okL (p.1+1) ps
theorem Zpt:∀ (ps:List Post) (n:Int),okL n ps↔Ztj 65536 (n - 1) (Zgu ps)=true∧∀ p∈ps,p.2≠[]∧Zto 1048576 p.2=true
 | [],n=>by simp [okL,Zgu,Ztj]
 | p::ps,n=>by
   have e:Zgu (p::ps)=p.1::Zgu ps:=rfl
   have ih:=Zpt ps (p.1+1)
   rw [show p.1+1 - 1=p.1 by omega] at ih
   rw [okL,ih,e,Ztj,Bool.and_eq_true,Bool.and_eq_true,decide_eq_true_eq,decide_eq_true_eq,List.forall_mem_cons]
   unfold okP
   constructor
   ·rintro ⟨⟨h1,h2,h3,h4⟩,h5,h6⟩;exact ⟨⟨⟨by omega,h2⟩,h5⟩,⟨h3,h4⟩,h6⟩
   ·rintro ⟨⟨⟨h1,h2⟩,h5⟩,⟨h3,h4⟩,h6⟩;exact ⟨⟨by omega,h2,h3,h4⟩,h5,h6⟩
theorem Zmy (ps:List Post):isL ps=true↔okL 0 ps:=by
 rw [Zmx,Zpt];rfl
def ZoH:Int→List Post→Int
 | n,[]=>n
 | _,p::ps=>ZoH (p.1+1) ps
theorem ZoI:∀ (a b:List Post) (n:Int),ZoH n (a++b)=ZoH (ZoH n a) b
 | [],_,_=>rfl
 | p::a,b,n=>ZoI a b (p.1+1)
theorem Zpr:∀ (a b:List Post) (n:Int),okL n (a++b)↔okL n a∧okL (ZoH n a) b
 | [],_,_=>by simp [okL,ZoH]
 | p::a,b,n=>by rw [List.cons_append,okL,okL,ZoH,Zpr a b (p.1+1),and_assoc]
theorem ZoJ:∀ (ps:List Post) (n:Int),okL n ps→n≤ZoH n ps∧(n≤65536→ZoH n ps≤65536)∧(ps.length:Int)≤ZoH n ps - n
 | [],n,_=>by simp [ZoH]
 | p::ps,n,h=>by
   rw [okL] at h
   have h1:=h.1
   unfold okP at h1
   have:=ZoJ ps (p.1+1) h.2
   rw [ZoH,List.length_cons,Int.natCast_add]
   omega
theorem Zpu (ps:List Post) (h:okL 0 ps):ps.length≤65536:=by
 have:=ZoJ ps 0 h
 omega
theorem Zpw {ps:List Post} {n:Int} (h:okL n ps) (k:Nat):okL n (ps.take k):=by
 rw [← List.take_append_drop k ps,Zpr] at h;exact h.1
theorem Zps {ps:List Post} {n:Int} (h:okL n ps) (k:Nat):okL (ZoH n (ps.take k)) (ps.drop k):=by
 have h':=h
 rw [← List.take_append_drop k ps,Zpr] at h';exact h'.2
def ZjU:Int→List Int→List UInt8
 | _,[]=>[]
 | n,z::zs=>Zd8 (z - n).toNat++ZjU (z+1) zs
def Zrt (n:Int) (p:Post):List UInt8:=Zd8 (p.1 - n).toNat++(Zd8 p.2.length++ZjU 0 p.2)
def Zdz:Int→List Post→List UInt8
 | _,[]=>[]
 | n,p::ps=>Zrt n p++Zdz (p.1+1) ps
theorem ZdA:∀ (a b:List Post) (n:Int),Zdz n (a++b)=Zdz n a++Zdz (ZoH n a) b
 | [],_,_=>rfl
 | p::a,b,n=>by rw [List.cons_append,Zdz,Zdz,ZoH,ZdA a b (p.1+1),List.append_assoc]
def Zm6:Int→List Int→Int
 | n,[]=>n
 | _,z::zs=>Zm6 (z+1) zs
theorem Zm8:∀ (zs:List Int) (n z:Int),Zm6 n (zs++[z])=z+1
 | [],n,z=>rfl
 | y::zs,n,z=>Zm8 zs (y+1) z
theorem ZjW:∀ (zs:List Int) (n z:Int),ZjU n (zs++[z])=ZjU n zs++Zd8 (z - Zm6 n zs).toNat
 | [],n,z=>by simp [ZjU,Zm6]
 | y::zs,n,z=>by
   rw [List.cons_append,ZjU,ZjU,ZjW zs (y+1) z,List.append_assoc]
   rfl
theorem Ztn (fin:Int):∀ (zs:List Int) (n z:Int),Ztj fin (n - 1) (zs++[z])=(Ztj fin (n - 1) zs&&(decide (Zm6 n zs≤z)&&decide (z<fin)))
 | [],n,z=>by
   show (decide (n - 1<z)&&decide (z<fin)&&true)=(true&&(decide (n≤z)&&decide (z<fin)))
   have e:(n - 1<z)=(n≤z):=propext ⟨fun h=>by omega,fun h=>by omega⟩
   simp only [e,Bool.and_true,Bool.true_and]
 | y::zs,n,z=>by
   have:=Ztn fin zs (y+1) z
   rw [show y+1 - 1=y by omega] at this
   rw [List.cons_append,Ztj,Ztj,this,Zm6,Bool.and_assoc,Bool.and_assoc,Bool.and_assoc]
theorem Zm7 (fin:Int):∀ (zs:List Int) (n:Int),n≤fin→Ztj fin (n - 1) zs=true→n≤Zm6 n zs∧Zm6 n zs≤fin
 | [],n,h,_=>⟨Int.le_refl _,h⟩
 | z::zs,n,h,hr=>by
   rw [Ztj,Bool.and_eq_true,Bool.and_eq_true,decide_eq_true_eq,decide_eq_true_eq] at hr
   have:=Zm7 fin zs (z+1) (by omega) (by rw [show z+1 - 1=z by omega];exact hr.2)
   rw [Zm6]
   omega
def endL (ps:List Post) (i:Nat):Nat:=(Zdz 0 (ps.take (32*i))).length
def h1L (ps:List Post) (i:Nat):Nat:=(ZoH 0 (ps.take (32*(i+1))) - 1).toNat
def h2L (ps:List Post) (i:Nat):Nat:=endL ps (i+1) - endL ps i
def Zld (ps:List Post) (i:Nat):List UInt8:=Zd8 (h1L ps i)++Zd8 (h2L ps i)
def Zlq (ps:List Post):Nat→Nat→List UInt8
 | _,0=>[]
 | i,c+1=>Zld ps i++Zlq ps (i+1) c
theorem Zlt (ps:List Post):∀ (c i:Nat),Zlq ps i (c+1)=Zlq ps i c++Zld ps (i+c)
 | 0,i=>by simp [Zlq]
 | c+1,i=>by rw [Zlq,Zlt ps c (i+1),Zlq,List.append_assoc,show i+1+c=i+(c+1) by omega]
def cnt (n:Nat):Nat:=(n+31) / 32
def encL (ps:List Post):List UInt8:=Zd8 ps.length++Zlq ps 0 (cnt ps.length)++Zdz 0 ps
def Dec (b:List UInt8) (ps:List Post):Prop:=isL ps=true∧encL ps=b
theorem ZjV:∀ (zs:List Int) (n:Int),zs.length≤(ZjU n zs).length∧(ZjU n zs).length≤10*zs.length
 | [],_=>by simp [ZjU]
 | z::zs,n=>by
   have:=ZjV zs (z+1)
   have h:=Zea (z - n).toNat
   rw [ZjU,List.length_append,List.length_cons]
   omega
theorem Zru (n:Int) (p:Post):2+p.2.length≤(Zrt n p).length∧(Zrt n p).length≤20+10*p.2.length:=by
 have h1:=Zea (p.1 - n).toNat
 have h2:=Zea p.2.length
 have h3:=ZjV p.2 0
 unfold Zrt
 rw [List.length_append,List.length_append]
 omega
def sumL:List Post→Nat
 | []=>0
 | p::ps=>p.2.length+sumL ps
theorem ZdC:∀ (ps:List Post) (n:Int),(Zdz n ps).length≤20*ps.length+10*sumL ps
 | [],_=>by simp [Zdz]
 | p::ps,n=>by
   have:=ZdC ps (p.1+1)
   have h:=Zru n p
   rw [Zdz,sumL,List.length_append,List.length_cons]
   omega
theorem ZdB:∀ (ps:List Post) (n:Int),okL n ps→3*ps.length≤(Zdz n ps).length
 | [],_,_=>by simp [Zdz]
 | p::ps,n,h=>by
   rw [okL] at h
   have:=ZdB ps (p.1+1) h.2
   have h3:=Zru n p
   have h4:=List.length_pos_iff.2 h.1.2.2.1
   rw [Zdz,List.length_append,List.length_cons]
   omega
theorem ZwK:∀ (ps:List Post) (k:Nat),sumL (ps.take k)≤sumL ps
 | [],k=>by simp [sumL]
 | p::ps,0=>by simp [sumL]
 | p::ps,k+1=>by
   have:=ZwK ps k
   rw [List.take_succ_cons,sumL,sumL];omega
theorem Zls (ps:List Post):∀ (c i:Nat),(Zlq ps i c).length≤20*c
 | 0,i=>by simp [Zlq]
 | c+1,i=>by
   have:=Zls ps c (i+1)
   have h1:=Zea (h1L ps i)
   have h2:=Zea (h2L ps i)
   rw [Zlq,Zld,List.length_append,List.length_append]
   omega
theorem Zhm (ps:List Post) (i:Nat):endL ps i≤20*ps.length+10*sumL ps:=by
 have:=ZdC (ps.take (32*i)) 0
 have h:=ZwK ps (32*i)
 have h2:(ps.take (32*i)).length≤ps.length:=List.length_take_le' _ _
 unfold endL
 omega
def getS (l:List UInt8):Option (Nat×List UInt8):=if (getL l).2.2=0 then some ((getL l).1,l.drop (getL l).2.1) else none
theorem Zkx {n:Nat} (hn:n<18446744073709551616) (r:List UInt8):getS (Zd8 n++r)=some (n,r):=by
 unfold getS
 rw [Zkj n hn r]
 simp
theorem Zku {l r:List UInt8} {n:Nat} (h:getS l=some (n,r)):l=Zd8 n++r∧n<18446744073709551616∧r.length<l.length:=by
 unfold getS at h
 split at h
 ·rename_i h0
  simp only [Option.some.injEq,Prod.mk.injEq] at h
  obtain ⟨h1,h2⟩:=h
  have hb:=Zkg (l:=l) (n:=(getL l).1) (k:=(getL l).2.1) (by rw [← h0])
  have hl:=Zkh l
  have h3:=hl.2.2.2 h0
  subst h1 h2
  exact ⟨hb.symm,hl.1,by rw [List.length_drop];omega⟩
 ·cases h
theorem Zkw:getS []=none:=by
 unfold getS
 rw [show getL []=(0,0,6) from Zj9 0 0]
 simp
def numL (lo hi:Int) (l:List UInt8):Option (Nat×List UInt8):=match getS l with
 | some (n,r)=>if lo≤(n:Int)∧(n:Int)≤hi then some (n,r) else none
 | none=>none
theorem Zo2 {lo hi:Int} {n:Nat} (hn:n<18446744073709551616) (h1:lo≤(n:Int)) (h2:(n:Int)≤hi) (r:List UInt8):numL lo hi (Zd8 n++r)=some (n,r):=by
 unfold numL
 rw [Zkx hn]
 simp [h1,h2]
theorem ZoY {lo hi:Int} {l r:List UInt8} {n:Nat} (h:numL lo hi l=some (n,r)):l=Zd8 n++r∧n<18446744073709551616∧r.length<l.length∧lo≤(n:Int)∧(n:Int)≤hi:=by
 unfold numL at h
 split at h
 ·rename_i m s hs
  split at h
  ·rename_i hb
   simp only [Option.some.injEq,Prod.mk.injEq] at h
   obtain ⟨rfl,rfl⟩:=h
   have:=Zku hs
   exact ⟨this.1,this.2.1,this.2.2,hb.1,hb.2⟩
  ·cases h
 ·cases h
theorem Zo1 (lo hi:Int):numL lo hi []=none:=by unfold numL;rw [Zkw]
theorem Zef {a b:Nat} {l m:List UInt8} (ha:a<18446744073709551616) (hb:b<18446744073709551616) (h:Zd8 a++l=Zd8 b++m):a=b∧l=m:=by
 have h1:=Zkx ha l
 rw [h,Zkx hb] at h1
 simp only [Option.some.injEq,Prod.mk.injEq] at h1
 exact ⟨h1.1.symm,h1.2.symm⟩
theorem ZjX (fin:Int) (hf:fin≤1048576):∀ (xs ys:List Int) (n:Int) (l m:List UInt8),0≤n→xs.length=ys.length→Ztj fin (n - 1) xs=true→Ztj fin (n - 1) ys=true→ZjU n xs++l=ZjU n ys++m→xs=ys∧l=m
 | [],[],n,l,m,_,_,_,_,h=>⟨rfl,h⟩
 | [],_::_,_,_,_,_,h,_,_,_=>by simp at h
 | _::_,[],_,_,_,_,h,_,_,_=>by simp at h
 | x::xs,y::ys,n,l,m,hn,hl,hx,hy,h=>by
   rw [Ztj,Bool.and_eq_true,Bool.and_eq_true,decide_eq_true_eq,decide_eq_true_eq] at hx hy
   rw [ZjU,ZjU,List.append_assoc,List.append_assoc] at h
   obtain ⟨h1,h2⟩:=Zef (by omega) (by omega) h
   have e:x=y:=by omega
   subst e
   obtain ⟨h3,h4⟩:=ZjX fin hf xs ys (x+1) l m (by omega) (by simpa using hl) (by rw [show x+1 - 1=x by omega];exact hx.2) (by rw [show x+1 - 1=x by omega];exact hy.2) h2
   exact ⟨by rw [h3],h4⟩
theorem Ztq {zs:List Int} (h:Zto 1048576 zs=true):zs.length≤1048576:=by
 by_cases h0:zs=[]
 ·subst h0;simp
 ·have:=Ztl 1048576 zs (-1) h h0
  omega
def Zbc (n:Int) (l:List UInt8) (p:Post) (r:List UInt8):Prop:=okP n p∧l=Zrt n p++r
theorem Zrp {n:Int} {l:List UInt8} {p q:Post} {r s:List UInt8} (hn:0≤n) (h:Zbc n l p r) (k:Zbc n l q s):p=q∧r=s:=by
 obtain ⟨hp,h⟩:=h
 obtain ⟨hq,k⟩:=k
 rw [h] at k
 unfold Zrt at k
 simp only [List.append_assoc] at k
 unfold okP at hp hq
 have lp:=Ztq hp.2.2.2
 have lq:=Ztq hq.2.2.2
 obtain ⟨h1,h2⟩:=Zef (by omega) (by omega) k
 obtain ⟨h3,h4⟩:=Zef (by omega) (by omega) h2
 obtain ⟨h5,h6⟩:=ZjX 1048576 (by omega) p.2 q.2 0 r s (by omega) h3 hp.2.2.2 hq.2.2.2 h4
 exact ⟨Prod.ext (by omega) h5,h6⟩
def Comp (b:List UInt8) (n j:Nat) (ps:List Post) (l:List UInt8):Prop:=∀ PS,Dec b PS→PS.length=n∧ps=PS.take j∧l=Zdz (ZoH 0 ps) (PS.drop j)
theorem ZoL {ps:List Post} (h:okL 0 ps):0≤ZoH 0 ps:=(ZoJ ps 0 h).1
theorem Zfz {b:List UInt8} {n j:Nat} {ps:List Post} {l r:List UInt8} {p:Post} (h:Comp b n j ps l) (hj:j<n) (ho:okL 0 ps) (hp:Zbc (ZoH 0 ps) l p r):Comp b n (j+1) (ps++[p]) r:=by
 intro PS hPS
 obtain ⟨h1,h2,h3⟩:=h PS hPS
 have hlt:j<PS.length:=by omega
 have hd:PS.drop j=PS[j]::PS.drop (j+1):=List.drop_eq_getElem_cons hlt
 have hok:=Zps ((Zmy PS).1 hPS.1) j
 rw [← h2,hd,okL] at hok
 rw [hd,Zdz] at h3
 obtain ⟨h4,h5⟩:=Zrp (ZoL ho) hp ⟨hok.1,h3⟩
 refine ⟨h1,?_,?_⟩
 ·rw [List.take_succ_eq_append_getElem hlt,← h2,h4]
 ·rw [h5,ZoI,h4];rfl
def Za5 (b:List UInt8):Prop:=∀ PS,¬ Dec b PS
theorem Zfx {b:List UInt8} {n j:Nat} {ps:List Post} {l:List UInt8} (h:Comp b n j ps l) (hj:j<n) (hn:∀ p r,¬ Zbc (ZoH 0 ps) l p r):Za5 b:=by
 intro PS hPS
 obtain ⟨h1,h2,h3⟩:=h PS hPS
 have hlt:j<PS.length:=by omega
 have hd:PS.drop j=PS[j]::PS.drop (j+1):=List.drop_eq_getElem_cons hlt
 have hok:=Zps ((Zmy PS).1 hPS.1) j
 rw [← h2,hd,okL] at hok
 rw [hd,Zdz] at h3
 exact hn _ _ ⟨hok.1,h3⟩
theorem Zfw {b:List UInt8} {n:Nat} {ps PS:List Post} {l:List UInt8} (h:Comp b n n ps l) (hPS:Dec b PS):ps=PS∧l=[]:=by
 obtain ⟨h1,h2,h3⟩:=h PS hPS
 rw [← h1,List.take_length] at h2
 rw [← h1,List.drop_length,Zdz] at h3
 exact ⟨h2,h3⟩
def Zaq (b:List UInt8) (n i:Nat) (hs:List (Nat×Nat)) (l:List UInt8):Prop:=∀ PS,Dec b PS→PS.length=n∧hs=(List.range i).map (fun k=>(h1L PS k,h2L PS k))∧l=Zlq PS i (cnt n - i)++Zdz 0 PS
theorem Zgf {b:List UInt8} {PS:List Post} (h:Dec b PS):3*PS.length+1≤b.length∧PS.length≤65536:=by
 have hok:=(Zmy PS).1 h.1
 have h1:=ZdB PS 0 hok
 have h2:=Zpu PS hok
 have h3:=Zea PS.length
 rw [← h.2]
 unfold encL
 rw [List.length_append,List.length_append]
 omega
theorem Zgd {b:List UInt8} {PS:List Post} (h:Dec b PS):(Zdz 0 PS).length≤b.length:=by
 rw [← h.2]
 unfold encL
 rw [List.length_append]
 omega
theorem Zhn {PS:List Post} (i:Nat):endL PS i≤(Zdz 0 PS).length:=by
 unfold endL
 conv=>rhs;rw [← List.take_append_drop (32*i) PS,ZdA,List.length_append]
 omega
theorem ZkW {b:List UInt8} {PS:List Post} (h:Dec b PS) (i:Nat):h1L PS i≤65535∧h2L PS i≤b.length:=by
 have hok:=(Zmy PS).1 h.1
 have h1:=ZoJ _ 0 (Zpw hok (32*(i+1)))
 have h2:=Zgd h
 have h3:=Zhn (PS:=PS) (i+1)
 unfold h1L h2L
 omega
theorem Zfu {b l:List UInt8} {n:Nat} {m:Int} (hb:b.length<4611686018427387904) (h:numL 0 m b=some (n,l)):Zaq b n 0 [] l:=by
 intro PS hPS
 have hl:=Zgf hPS
 have h2:=ZoY h
 have h3:=hPS.2
 unfold encL at h3
 rw [h2.1,List.append_assoc] at h3
 obtain ⟨h4,h5⟩:=Zef (by omega) h2.2.1 h3
 exact ⟨h4,rfl,by rw [← h5,h4,Nat.sub_zero]⟩
theorem Zfr {b:List UInt8} {m:Int} (hm:m=min 65536 ((b.length / 3:Nat):Int)) (h:numL 0 m b=none):Za5 b:=by
 intro PS hPS
 have hl:=Zgf hPS
 have h3:=hPS.2
 unfold encL at h3
 rw [← h3,List.append_assoc,Zo2 (by omega) (by omega) (by omega)] at h
 cases h
theorem Zlr {PS:List Post} {n i:Nat} (hi:i<cnt n):Zlq PS i (cnt n - i)=Zld PS i++Zlq PS (i+1) (cnt n - (i+1)):=by
 rw [show cnt n - i=(cnt n - (i+1))+1 by omega,Zlq]
theorem Zfv {b l l1 l2:List UInt8} {n i:Nat} {hs:List (Nat×Nat)} {x y:Nat} {m:Int} (hb:b.length<4611686018427387904) (h:Zaq b n i hs l) (hi:i<cnt n) (h1:numL 0 m l=some (x,l1)) (h2:numL 0 m l1=some (y,l2)):Zaq b n (i+1) (hs++[(x,y)]) l2:=by
 intro PS hPS
 obtain ⟨h3,h4,h5⟩:=h PS hPS
 have hsm:=ZkW hPS i
 rw [Zlr hi,Zld,List.append_assoc,List.append_assoc] at h5
 have k1:=ZoY h1
 have k2:=ZoY h2
 rw [k1.1,k2.1] at h5
 obtain ⟨e1,h5⟩:=Zef k1.2.1 (by omega) h5
 obtain ⟨e2,h5⟩:=Zef k2.2.1 (by omega) h5
 refine ⟨h3,?_,h5⟩
 rw [List.range_succ,List.map_append,← h4,e1,e2]
 rfl
theorem Zfs {b l:List UInt8} {n i:Nat} {hs:List (Nat×Nat)} (hb:b.length<4611686018427387904) (h:Zaq b n i hs l) (hi:i<cnt n) (h1:numL 0 9223372036854775807 l=none):Za5 b:=by
 intro PS hPS
 obtain ⟨h3,h4,h5⟩:=h PS hPS
 have hsm:=ZkW hPS i
 rw [h5,Zlr hi,Zld,List.append_assoc,List.append_assoc,Zo2 (by omega) (by omega) (by omega)] at h1
 cases h1
theorem Zft {b l l1:List UInt8} {n i:Nat} {hs:List (Nat×Nat)} {x:Nat} (hb:b.length<4611686018427387904) (h:Zaq b n i hs l) (hi:i<cnt n) (h1:numL 0 9223372036854775807 l=some (x,l1)) (h2:numL 0 9223372036854775807 l1=none):Za5 b:=by
 intro PS hPS
 obtain ⟨h3,h4,h5⟩:=h PS hPS
 have hsm:=ZkW hPS i
 rw [h5,Zlr hi,Zld,List.append_assoc,List.append_assoc,Zo2 (by omega) (by omega) (by omega)] at h1
 simp only [Option.some.injEq,Prod.mk.injEq] at h1
 rw [← h1.2,Zo2 (by omega) (by omega) (by omega)] at h2
 cases h2
theorem Zfy {b l:List UInt8} {n:Nat} {hs:List (Nat×Nat)} (h:Zaq b n (cnt n) hs l):Comp b n 0 [] l:=by
 intro PS hPS
 obtain ⟨h3,h4,h5⟩:=h PS hPS
 rw [Nat.sub_self,Zlq,List.nil_append] at h5
 exact ⟨h3,rfl,h5⟩
end Go.Proofs.YtdijhifdjbnkfaaGreat.PM
namespace Go.Proofs.YtdijhifdjbnkfaaGreat.FM
open VM CM
def sumB (s:Nat):List UInt8:=[UInt8.ofNat (s / 16777216),UInt8.ofNat (s / 65536),UInt8.ofNat (s / 256),UInt8.ofNat s]
def fsum:List UInt8→Nat
 | [a,b,c,d]=>a.toNat*16777216+b.toNat*65536+c.toNat*256+d.toNat
 | _=>0
theorem ZwG (s:Nat):(sumB s).length=4:=rfl
theorem ZjT {s:Nat} (h:s<4294967296):fsum (sumB s)=s:=by
 simp only [sumB,fsum,UInt8.toNat_ofNat']
 omega
theorem ZjA {l:List UInt8} (h:l.length=4):∃ a b c d,l=[a,b,c,d]:=by
 match l,h with
 | [a,b,c,d],_=>exact ⟨a,b,c,d,rfl⟩
theorem ZjS {l m:List UInt8} (hl:l.length=4) (hm:m.length=4) (h:fsum l=fsum m):l=m:=by
 obtain ⟨a,b,c,d,rfl⟩:=ZjA hl
 obtain ⟨a',b',c',d',rfl⟩:=ZjA hm
 simp only [fsum] at h
 have h1:=a.toNat_lt;have h2:=b.toNat_lt;have h3:=c.toNat_lt;have h4:=d.toNat_lt
 have h1':=a'.toNat_lt;have h2':=b'.toNat_lt;have h3':=c'.toNat_lt;have h4':=d'.toNat_lt
 have e1:a=a':=UInt8.toNat_inj.1 (by omega)
 have e2:b=b':=UInt8.toNat_inj.1 (by omega)
 have e3:c=c':=UInt8.toNat_inj.1 (by omega)
 have e4:d=d':=UInt8.toNat_inj.1 (by omega)
 rw [e1,e2,e3,e4]
theorem ZwJ (l:List UInt8):sumL l<4294967296:=ZoK 0 l
def ZjB (p:List UInt8):List UInt8:=Zd8 p.length++(sumB (sumL (Zd8 p.length++p))++p)
theorem ZjE (p:List UInt8):(ZjB p).length=(Zd8 p.length).length+(4+p.length):=by
 unfold ZjB
 rw [List.length_append,List.length_append,ZwG]
theorem ZjC (p:List UInt8):5+p.length≤(ZjB p).length∧(ZjB p).length≤14+p.length:=by
 have:=Zea p.length
 rw [ZjE]
 omega
def ZvZ (n:Int):Int:=if n<0∨16777216<n then 0 else ((Zd8 n.toNat).length:Int)+4+n
theorem Zv1 {n:Nat} (h:n≤16777216):ZvZ (n:Int)=(((Zd8 n).length+4+n:Nat):Int):=by
 unfold ZvZ
 rw [if_neg (by omega),Int.toNat_natCast]
 omega
theorem Zv0 {p:List UInt8} (h:p.length≤16777216):ZvZ (p.length:Int)=((ZjB p).length:Int):=by
 rw [Zv1 h,ZjE]
 omega
def getR (l:List UInt8):List UInt8×Nat×Int :=
 if (getL l).2.2=6 then ([],0,41)
 else if (getL l).2.2≠0∨16777216<(getL l).1 then ([],0,40)
 else if (l.drop (getL l).2.1).length<4+(getL l).1 then ([],0,41)
 else if fsum ((l.drop (getL l).2.1).take 4)≠sumL (l.take (getL l).2.1++((l.drop (getL l).2.1).drop 4).take (getL l).1) then ([],0,40)
 else (((l.drop (getL l).2.1).drop 4).take (getL l).1,(getL l).2.1+(4+(getL l).1),0)
def Zs4 (l:List UInt8):List UInt8:=if (getR l).2.2=0 then l.drop (getR l).2.1 else []
theorem Zki (l:List UInt8):(∃ n k,getL l=(n,k,0)∧n<18446744073709551616∧1≤k∧k≤l.length)∨getL l=(0,0,6)∨getL l=(0,0,20):=by
 have h:=Zkh l
 rcases h.2.2.1 with h0 | h0
 ·exact .inl ⟨(getL l).1,(getL l).2.1,by rw [← h0],h.1,h.2.2.2 h0,h.2.1⟩
 ·exact .inr h0
theorem Zks {l:List UInt8} (h:getL l=(0,0,6)):getR l=([],0,41):=by unfold getR;rw [h];rfl
theorem Zkm {l:List UInt8} (h:getL l=(0,0,20)):getR l=([],0,40):=by unfold getR;rw [h];rfl
theorem Zko {l:List UInt8} {n k:Nat} (h:getL l=(n,k,0)) (hn:16777216<n):getR l=([],0,40):=by
 unfold getR
 rw [h]
 show (if (0:Int)=6 then _ else if (0:Int)≠0∨16777216<n then _ else _)=_
 rw [if_neg (by omega),if_pos (.inr hn)]
theorem Zkq {l:List UInt8} {n k:Nat} (h:getL l=(n,k,0)) (hn:n≤16777216) :
  getR l=if (l.drop k).length<4+n then ([],0,41) else if fsum ((l.drop k).take 4)≠sumL (l.take k++((l.drop k).drop 4).take n) then ([],0,40) else (((l.drop k).drop 4).take n,k+(4+n),0):=by
 unfold getR
 rw [h]
 show (if (0:Int)=6 then _ else if (0:Int)≠0∨16777216<n then _ else _)=_
 rw [if_neg (by omega),if_neg (by omega)]
theorem Zs6 {l p:List UInt8} {k:Nat} (h:getR l=(p,k,0)):Zs4 l=l.drop k:=by unfold Zs4;rw [h];rfl
theorem Zs5 {l:List UInt8} {e:Int} (h:getR l=([],0,e)) (h0:e≠0):Zs4 l=[]:=by unfold Zs4;rw [h];exact if_neg h0
theorem Zkr {p:List UInt8} (hp:p.length≤16777216) (r:List UInt8):getR (ZjB p++r)=(p,(ZjB p).length,0):=by
 have h:getL (ZjB p++r)=(p.length,(Zd8 p.length).length,0):=by
  unfold ZjB
  rw [List.append_assoc]
  exact Zkj _ (by omega) _
 have hd:(ZjB p++r).drop (Zd8 p.length).length=sumB (sumL (Zd8 p.length++p))++(p++r):=by
  unfold ZjB
  rw [List.append_assoc,List.drop_left,List.append_assoc]
 have ht:(ZjB p++r).take (Zd8 p.length).length=Zd8 p.length:=by
  unfold ZjB
  rw [List.append_assoc,List.take_left]
 rw [Zkq h hp,hd,ht]
 have e1:(sumB (sumL (Zd8 p.length++p))++(p++r)).take 4=sumB (sumL (Zd8 p.length++p)):=List.take_left' (ZwG _)
 have e2:((sumB (sumL (Zd8 p.length++p))++(p++r)).drop 4)=p++r:=List.drop_left' (ZwG _)
 rw [e1,e2,List.take_left,ZjT (ZwJ _),if_neg (by rw [List.length_append,List.length_append,ZwG];omega),if_neg (by simp),ZjE]
theorem Zkl {l p:List UInt8} {k:Nat} (h:getR l=(p,k,0)):p.length≤16777216∧k=(ZjB p).length∧ZjB p++l.drop k=l:=by
 rcases Zki l with ⟨n,q,hg,hb,hq1,hq2⟩ | hg | hg
 ·by_cases hn:n≤16777216
  ·rw [Zkq hg hn] at h
   split at h
   ·cases h
   ·rename_i hlen
    split at h
    ·cases h
    ·rename_i hs
     simp only [ne_eq,Decidable.not_not] at hs
     simp only [Prod.mk.injEq] at h
     obtain ⟨hp,hk,_⟩:=h
     have hbk:=Zkg hg
     have hl:((l.drop q).drop 4).length=(l.drop q).length - 4:=by rw [List.length_drop]
     have hpl:p.length=n:=by rw [← hp,List.length_take];omega
     have hbt:Zd8 n=l.take q:=by
      have e:l.take q++l.drop q=l:=List.take_append_drop q l
      exact List.append_cancel_right (hbk.trans e.symm)
     have hbl:(Zd8 n).length=q:=by rw [hbt,List.length_take];omega
     have hd4:((l.drop q).take 4).length=4:=by rw [List.length_take];omega
     have hsum:(l.drop q).take 4=sumB (sumL (Zd8 n++p)):=by
      refine ZjS hd4 (ZwG _) ?_
      rw [ZjT (ZwJ _),hs,hbt,hp]
     have hfl:(ZjB p).length=k:=by rw [ZjE,hpl,hbl];omega
     refine ⟨by omega,hfl.symm,?_⟩
     unfold ZjB
     rw [hpl,← hsum,hbt,← hp,← hk,List.append_assoc,List.append_assoc]
     rw [← List.drop_drop,← List.drop_drop,List.take_append_drop,List.take_append_drop,List.take_append_drop]
  ·rw [Zko hg (by omega)] at h
   cases h
 ·rw [Zks hg] at h
  cases h
 ·rw [Zkm hg] at h
  cases h
theorem Zkn (l:List UInt8):(∃ p k,getR l=(p,k,0))∨getR l=([],0,41)∨getR l=([],0,40):=by
 rcases Zki l with ⟨n,q,hg,hb,hq1,hq2⟩ | hg | hg
 ·by_cases hn:n≤16777216
  ·rw [Zkq hg hn]
   split
   ·exact .inr (.inl rfl)
   ·split
    ·exact .inr (.inr rfl)
    ·exact .inl ⟨_,_,rfl⟩
  ·exact .inr (.inr (Zko hg (by omega)))
 ·exact .inr (.inl (Zks hg))
 ·exact .inr (.inr (Zkm hg))
def ZjF (ps:List (List UInt8)):List UInt8:=(ps.map ZjB).flatten
theorem ZjI:ZjF []=[]:=rfl
theorem ZjH (p:List UInt8) (ps:List (List UInt8)):ZjF (p::ps)=ZjB p++ZjF ps:=by simp [ZjF]
theorem ZjG (ps qs:List (List UInt8)):ZjF (ps++qs)=ZjF ps++ZjF qs:=by simp [ZjF]
theorem ZjJ (ps:List (List UInt8)) {k:Nat} (hk:k<ps.length):ZjF (ps.take (k+1))=ZjF (ps.take k)++ZjB ps[k]:=by
 rw [List.take_succ_eq_append_getElem hk,ZjG,ZjH,ZjI,List.append_nil]
theorem ZjK (ps:List (List UInt8)) (k:Nat):(ZjF (ps.take k)).length≤(ZjF ps).length:=by
 have h:ZjF ps=ZjF (ps.take k)++ZjF (ps.drop k):=by rw [← ZjG,List.take_append_drop]
 rw [h,List.length_append]
 omega
inductive Splits:List UInt8→List (List UInt8)→Nat→Int→Prop
 | none_:Splits [] [] 0 0
 | stop {l:List UInt8} {e:Int}:l≠[]→getR l=([],0,e)→e≠0→Splits l [] 0 e
 | more {p r:List UInt8} {ps:List (List UInt8)} {k:Nat} {e:Int}:p.length≤16777216→Splits r ps k e→Splits (ZjB p++r) (p::ps) ((ZjB p).length+k) e
theorem ZjD {p q r s:List UInt8} (hp:p.length≤16777216) (hq:q.length≤16777216) (h:ZjB p++r=ZjB q++s):p=q∧r=s:=by
 have h1:=Zkr hp r
 rw [h,Zkr hq s] at h1
 simp only [Prod.mk.injEq] at h1
 obtain ⟨rfl,_,_⟩:=h1
 exact ⟨rfl,List.append_cancel_left h⟩
theorem Splits.told {l:List UInt8} {ps:List (List UInt8)} {k:Nat} {e:Int} (h:Splits l ps k e):ZjF ps=l.take k∧k≤l.length∧(ZjF ps).length=k∧(∀ p∈ps,p.length≤16777216)∧(e=0↔k=l.length)∧(e=0∨e=41∨e=40):=by
 induction h with
 | none_=>simp [ZjF]
 | stop hne hg he =>
   rename_i l e
   have hl:l.length≠0:=fun h=>hne (List.eq_nil_of_length_eq_zero h)
   refine ⟨by simp [ZjF],by omega,rfl,by simp,⟨fun h=>absurd h he,fun h=>by omega⟩,?_⟩
   rcases Zkn l with ⟨p,k,h⟩ | h | h
   ·rw [h] at hg
    simp only [Prod.mk.injEq] at hg
    exact .inl hg.2.2.symm
   ·rw [h] at hg
    simp only [Prod.mk.injEq,true_and] at hg
    exact .inr (.inl hg.symm)
   ·rw [h] at hg
    simp only [Prod.mk.injEq,true_and] at hg
    exact .inr (.inr hg.symm)
 | more hp hs ih =>
   obtain ⟨h1,h2,h3,h4,h5,h6⟩:=ih
   rename_i p r ps k e
   refine ⟨?_,?_,?_,?_,?_,h6⟩
   ·rw [ZjH,h1,List.take_append,List.take_of_length_le (l:=ZjB p) (by omega),Nat.add_sub_cancel_left]
   ·rw [List.length_append];omega
   ·rw [ZjH,List.length_append,h3]
   ·intro q hq
    rcases List.mem_cons.1 hq with rfl | hq
    ·exact hp
    ·exact h4 q hq
   ·rw [List.length_append,h5]
    omega
end Go.Proofs.YtdijhifdjbnkfaaGreat.FM
