import Derived.WalkKit
import Derived.Lib.Hide
set_option linter.unusedVariables false
set_option linter.unusedSimpArgs false
namespace Go.Proofs.YtdijhifdjbnkfaaGreat.VM
def bytesF:Nat→Nat→List UInt8
 | 0,n=>[UInt8.ofNat n]
 | k+1,n=>if n<128 then [UInt8.ofNat n] else UInt8.ofNat (n%128+128)::bytesF k (n / 128)
def bytesL (n:Nat):List UInt8:=bytesF 9 n
theorem bytesF_more:∀ (k n:Nat),n<128^(k+1)→bytesF (k+1) n=bytesF k n
 | 0,n,h=>by
   have h2:n<128:=by simpa using h
   simp [bytesF,h2]
 | k+1,n,h=>by
   have e1:bytesF (k+2) n=if n<128 then [UInt8.ofNat n] else UInt8.ofNat (n%128+128)::bytesF (k+1) (n / 128):=rfl
   have e2:bytesF (k+1) n=if n<128 then [UInt8.ofNat n] else UInt8.ofNat (n%128+128)::bytesF k (n / 128):=rfl
   rw [e1,e2,bytesF_more k (n / 128) (by rw [Nat.div_lt_iff_lt_mul (by omega)];rw [Nat.pow_succ] at h;exact h)]
theorem bytesL_small {n:Nat} (h:n<128):bytesL n=[UInt8.ofNat n]:=by
 unfold bytesL
 rw [show (9:Nat)=8+1 from rfl,bytesF,if_pos h]
theorem bytesL_big {n:Nat} (h:¬ n<128) (hn:n<18446744073709551616):bytesL n=UInt8.ofNat (n%128+128)::bytesL (n / 128):=by
 have e:bytesF 9 (n / 128)=bytesF 8 (n / 128):=bytesF_more 8 _ (by have:(128:Nat)^(8+1)=9223372036854775808:=by decide
                                                                   omega)
 unfold bytesL
 rw [e,show (9:Nat)=8+1 from rfl,bytesF,if_neg h]
theorem bytesF_length:∀ (k n:Nat),1≤(bytesF k n).length∧(bytesF k n).length≤k+1
 | 0,n=>by simp [bytesF]
 | k+1,n=>by
   unfold bytesF
   have:=bytesF_length k (n / 128)
   split<;>simp<;>omega
theorem bytesL_length (n:Nat):1≤(bytesL n).length∧(bytesL n).length≤10:=bytesF_length 9 n
theorem rec128 {P:Nat→Prop} (h0:∀ n,n<128→P n) (h1:∀ n,¬ n<128→P (n / 128)→P n) (n:Nat):P n:=by
 induction n using Nat.strongRecOn with
 | ind n ih =>
   by_cases h:n<128
   ·exact h0 n h
   ·exact h1 n h (ih _ (by omega))
def getF:Nat→Nat→List UInt8→Nat×Nat×Int
 | _,_,[]=>(0,0,6)
 | i,n,c::l=>if (i=9∧1<c.toNat)∨(0<i∧c.toNat=0) then (0,0,20) else if c.toNat<128 then (n+c.toNat%128*2^(7*i),i+1,0) else getF (i+1) (n+c.toNat%128*2^(7*i)) l
def getL (l:List UInt8):Nat×Nat×Int:=getF 0 0 l
theorem getF_nil (i n:Nat):getF i n []=(0,0,6):=by rw [getF]
theorem getF_bad {i n:Nat} {c:UInt8} {l:List UInt8} (h:(i=9∧1<c.toNat)∨(0<i∧c.toNat=0)):getF i n (c::l)=(0,0,20):=by rw [getF,if_pos h]
theorem getF_end {i n:Nat} {c:UInt8} {l:List UInt8} (h:¬ ((i=9∧1<c.toNat)∨(0<i∧c.toNat=0))) (h2:c.toNat<128):getF i n (c::l)=(n+c.toNat%128*2^(7*i),i+1,0):=by rw [getF,if_neg h,if_pos h2]
theorem getF_more {i n:Nat} {c:UInt8} {l:List UInt8} (h:¬ ((i=9∧1<c.toNat)∨(0<i∧c.toNat=0))) (h2:¬ c.toNat<128):getF i n (c::l)=getF (i+1) (n+c.toNat%128*2^(7*i)) l:=by rw [getF,if_neg h,if_neg h2]
theorem pow7 (i:Nat):2^(7*(i+1))=128*2^(7*i):=by
 rw [Nat.mul_add,Nat.pow_add];omega
theorem gather_lt {i n:Nat} (hn:n<2^(7*i)) (c:Nat):n+c%128*2^(7*i)<2^(7*(i+1)):=by
 rw [pow7]
 have h1:c%128≤127:=by omega
 have h2:=Nat.mul_le_mul_right (2^(7*i)) h1
 omega
theorem pow_le {i j:Nat} (h:i≤j):2^(7*i)≤2^(7*j):=Nat.pow_le_pow_right (by omega) (by omega)
theorem pow9:2^(7*9)=9223372036854775808:=by decide
theorem gather_fits {i n:Nat} (hn:n<2^(7*i)) (hi:i≤9) {c:UInt8} (h:¬ ((i=9∧1<c.toNat)∨(0<i∧c.toNat=0))):n+c.toNat%128*2^(7*i)<18446744073709551616:=by
 by_cases h9:i=9
 ·subst h9
  have hc:c.toNat=1:=by omega
  rw [pow9] at hn ⊢
  rw [hc]
  omega
 ·have h1:=gather_lt hn c.toNat
  have h2:2^(7*(i+1))≤2^(7*9):=pow_le (by omega)
  rw [pow9] at h2
  omega
theorem gather_next {i:Nat} (hi:i≤9) {c:UInt8} (h:¬ ((i=9∧1<c.toNat)∨(0<i∧c.toNat=0))) (h2:¬ c.toNat<128):i+1≤9:=by
 by_cases h9:i=9<;>omega
theorem getF_bounds:∀ (l:List UInt8) (i n:Nat),i≤9→n<2^(7*i) →
  (getF i n l).1<18446744073709551616∧(getF i n l).2.1≤i+l.length∧((getF i n l).2.2=0∨(getF i n l=(0,0,6)∨getF i n l=(0,0,20)))∧((getF i n l).2.2=0→1≤(getF i n l).2.1)
 | [],i,n,_,_=>by rw [getF_nil];simp
 | c::l,i,n,hi,hn=>by
   by_cases h:(i=9∧1<c.toNat)∨(0<i∧c.toNat=0)
   ·rw [getF_bad h];simp
   ·by_cases h2:c.toNat<128
    ·rw [getF_end h h2]
     refine ⟨gather_fits hn hi h,by simp,.inl rfl,fun _=>by simp⟩
    ·rw [getF_more h h2]
     have:=getF_bounds l (i+1) _ (gather_next hi h h2) (gather_lt hn c.toNat)
     rw [List.length_cons]
     exact ⟨this.1,by omega,this.2.2.1,this.2.2.2⟩
theorem getL_bounds (l:List UInt8):(getL l).1<18446744073709551616∧(getL l).2.1≤l.length∧((getL l).2.2=0∨(getL l=(0,0,6)∨getL l=(0,0,20)))∧((getL l).2.2=0→1≤(getL l).2.1):=by
 have:=getF_bounds l 0 0 (by omega) (by omega)
 rw [Nat.zero_add] at this
 exact this
theorem toNat_small {n:Nat} (h:n<256):(UInt8.ofNat n).toNat=n:=by simp;omega
theorem getF_put (n:Nat):∀ (i acc:Nat) (l:List UInt8),i≤9→acc+n*2^(7*i)<18446744073709551616→(i=0∨0<n) →
  getF i acc (bytesL n++l)=(acc+n*2^(7*i),i+(bytesL n).length,0):=by
 refine rec128 (P:=fun n=>∀ (i acc:Nat) (l:List UInt8),i≤9→acc+n*2^(7*i)<18446744073709551616→(i=0∨0<n) →
  getF i acc (bytesL n++l)=(acc+n*2^(7*i),i+(bytesL n).length,0)) ?_ ?_ n
 ·intro n h i acc l hi hf h0
  have hc:(UInt8.ofNat n).toNat=n:=toNat_small (by omega)
  rw [bytesL_small h,List.singleton_append,getF_end]
  ·rw [hc,Nat.mod_eq_of_lt h];rfl
  ·rw [hc]
   rintro (⟨h9,h1⟩ | ⟨h9,h1⟩)
   ·subst h9
    rw [pow9] at hf
    omega
   ·omega
  ·omega
 ·intro n h ih i acc l hi hf h0
  have hbig:n<18446744073709551616:=by
   have:1≤2^(7*i):=Nat.one_le_two_pow
   have:=Nat.mul_le_mul_left n this
   omega
  have hc:(UInt8.ofNat (n%128+128)).toNat=n%128+128:=toNat_small (by omega)
  have hi8:i+1≤9:=by
   by_cases h9:i=9
   ·subst h9
    rw [pow9] at hf
    omega
   ·omega
  have e1:n*2^(7*i)=n%128*2^(7*i)+n / 128*(128*2^(7*i)):=by
   have h2:n=n%128+n / 128*128:=by omega
   rw [← Nat.mul_assoc,← Nat.add_mul,← h2]
  have hn:acc+n%128*2^(7*i)+n / 128*2^(7*(i+1))=acc+n*2^(7*i):=by
   rw [pow7,e1,Nat.add_assoc]
  rw [bytesL_big h hbig,List.cons_append,getF_more]
  ·rw [hc,show (n%128+128)%128=n%128 by omega,ih (i+1) _ l hi8 (by rw [hn];exact hf) (.inr (by omega)),hn,List.length_cons]
   simp only [Prod.mk.injEq,true_and,and_true]
   omega
  ·rw [hc];omega
  ·rw [hc];omega
theorem getL_put (n:Nat) (hn:n<18446744073709551616) (l:List UInt8):getL (bytesL n++l)=(n,(bytesL n).length,0):=by
 have:=getF_put n 0 0 l (by omega) (by omega) (.inl rfl)
 rw [Nat.zero_add,Nat.zero_add,Nat.mul_zero,Nat.pow_zero,Nat.mul_one] at this
 exact this
theorem getF_back:∀ (l:List UInt8) (i acc n k:Nat),i≤9→acc<2^(7*i)→getF i acc l=(n,k,0)→∃ m,n=acc+m*2^(7*i)∧i<k∧k≤i+l.length∧bytesL m=l.take (k - i)∧(0<i→0<m)
 | [],i,acc,n,k,_,_,h=>by rw [getF_nil] at h;simp at h
 | c::l,i,acc,n,k,hi,ha,h=>by
   by_cases hb:(i=9∧1<c.toNat)∨(0<i∧c.toNat=0)
   ·rw [getF_bad hb] at h;simp at h
   ·by_cases h2:c.toNat<128
    ·rw [getF_end hb h2] at h
     simp only [Prod.mk.injEq,and_true] at h
     obtain ⟨rfl,rfl⟩:=h
     refine ⟨c.toNat,by rw [Nat.mod_eq_of_lt h2],by omega,by rw [List.length_cons];omega,?_,by omega⟩
     rw [bytesL_small h2,show i+1 - i=1 by omega,List.take_succ_cons,List.take_zero]
     simp
    ·rw [getF_more hb h2] at h
     have hi2:=gather_next hi hb h2
     obtain ⟨m,hm,hk,hkl,hbm,h0⟩:=getF_back l (i+1) _ n k hi2 (gather_lt ha c.toNat) h
     have hc:=c.toNat_lt
     have hfit:=(getF_bounds l (i+1) _ hi2 (gather_lt ha c.toNat)).1
     rw [h] at hfit
     have hmp:=h0 (by omega)
     have hN:c.toNat%128+128*m<18446744073709551616:=by
      have h1:1≤2^(7*i):=Nat.one_le_two_pow
      have h3:=Nat.mul_le_mul_left (c.toNat%128) h1
      have h4:=Nat.mul_le_mul_left (m*128) h1
      rw [pow7,← Nat.mul_assoc] at hm
      have hfit':n<18446744073709551616:=hfit
      omega
     refine ⟨c.toNat%128+128*m,?_,by omega,by rw [List.length_cons];omega,?_,by omega⟩
     ·rw [hm,pow7,Nat.add_mul,Nat.add_assoc,Nat.mul_comm 128 m,Nat.mul_assoc]
     ·have hnb:¬ c.toNat%128+128*m<128:=by omega
      rw [bytesL_big hnb hN,show (c.toNat%128+128*m) / 128=m by omega,hbm,show k - i=(k - (i+1))+1 by omega,List.take_succ_cons,show (c.toNat%128+128*m)%128+128=c.toNat by omega]
      simp
theorem getL_back {l:List UInt8} {n k:Nat} (h:getL l=(n,k,0)):bytesL n++l.drop k=l:=by
 obtain ⟨m,hm,_,_,hb,_⟩:=getF_back l 0 0 n k (by omega) (by omega) h
 rw [Nat.zero_add,Nat.mul_zero,Nat.pow_zero,Nat.mul_one] at hm
 rw [hm,hb,Nat.sub_zero,List.take_append_drop]
def zig (n:Int):Nat:=if 0≤n then (2*n).toNat else (-2*n - 1).toNat
def zag (u:Nat):Int:=if u%2=0 then ((u / 2:Nat):Int) else -1 - ((u / 2:Nat):Int)
theorem zag_zig (n:Int):zag (zig n)=n:=by unfold zag zig;split<;>split<;>omega
theorem zig_lt {n:Int} (h0 : -9223372036854775808≤n) (h1:n≤9223372036854775807):zig n<18446744073709551616:=by unfold zig;split<;>omega
theorem zag_bd {u:Nat} (h:u<18446744073709551616) : -9223372036854775808≤zag u∧zag u≤9223372036854775807:=by unfold zag;split<;>omega
def intL (n:Int):List UInt8:=bytesL (zig n)
def getI (l:List UInt8):Int×Nat×Int:=(zag (getL l).1,(getL l).2.1,(getL l).2.2)
theorem getI_bounds (l:List UInt8):(-9223372036854775808≤(getI l).1∧(getI l).1≤9223372036854775807)∧(getI l).2.1≤l.length∧((getI l).2.2=0∨(getI l=(0,0,6)∨getI l=(0,0,20)))∧((getI l).2.2=0→1≤(getI l).2.1):=by
 have h:=getL_bounds l
 refine ⟨zag_bd h.1,h.2.1,?_,h.2.2.2⟩
 rcases h.2.2.1 with h0 | h0 | h0
 ·exact .inl h0
 ·refine .inr (.inl ?_);unfold getI;rw [h0];rfl
 ·refine .inr (.inr ?_);unfold getI;rw [h0];rfl
theorem getI_put (n:Int) (h0 : -9223372036854775808≤n) (h1:n≤9223372036854775807) (l:List UInt8):getI (intL n++l)=(n,(intL n).length,0):=by
 unfold getI intL
 rw [getL_put _ (zig_lt h0 h1),zag_zig]
def textL (s:List UInt8):List UInt8:=bytesL s.length++s
def getT (l:List UInt8) (most:Int):List UInt8×Nat×Int :=
 if (getL l).2.2≠0 then ([],0,(getL l).2.2)
 else if max 0 most<((getL l).1:Int) then ([],0,2)
 else if l.length - (getL l).2.1<(getL l).1 then ([],0,6)
 else ((l.drop (getL l).2.1).take (getL l).1,(getL l).2.1+(getL l).1,0)
theorem getT_put (s:List UInt8) (hs:s.length<18446744073709551616) (most:Int) (hm:(s.length:Int)≤most) (l:List UInt8):getT (textL s++l) most=(s,(textL s).length,0):=by
 unfold getT textL
 rw [List.append_assoc,getL_put _ hs]
 have e1:¬ ((0:Int)≠0):=by simp
 have e2:¬ max 0 most<(s.length:Int):=by omega
 have e3:¬ (bytesL s.length++(s++l)).length - (bytesL s.length).length<s.length:=by simp
 simp only []
 rw [if_neg e1,if_neg e2,if_neg e3,List.drop_left,List.take_left,List.length_append]
def allL (zs:List Int):List UInt8:=(zs.map intL).flatten
theorem allL_snoc (zs:List Int) (k:Nat) (hk:k<zs.length):allL (zs.take (k+1))=allL (zs.take k)++intL (zs.getD k 0):=by
 unfold allL
 rw [List.take_succ_eq_append_getElem hk,List.map_append,List.flatten_append]
 simp [List.getD,hk]
theorem allL_length (zs:List Int):(allL zs).length≤10*zs.length:=by
 induction zs with
 | nil=>simp [allL]
 | cons z zs ih =>
   have:allL (z::zs)=intL z++allL zs:=by simp [allL]
   rw [this,List.length_append,List.length_cons]
   have:=(bytesL_length (zig z)).2
   unfold intL
   omega
end Go.Proofs.YtdijhifdjbnkfaaGreat.VM
namespace Go.Proofs.YtdijhifdjbnkfaaGreat.PM
open Go.Proofs.YtdijhifdjbnkfaaGreat.VM
abbrev Post:=Int×List Int
def riseF (fin:Int):Int→List Int→Bool
 | _,[]=>true
 | a,z::zs=>decide (a<z)&&decide (z<fin)&&riseF fin z zs
def riseL (fin:Int) (zs:List Int):Bool:=riseF fin (-1) zs
def prevL (a:Int) (zs:List Int):Nat→Int
 | 0=>a
 | k+1=>zs.getD k 0
theorem riseF_iff (fin:Int):∀ (zs:List Int) (a:Int),riseF fin a zs=true↔∀ k,k<zs.length→prevL a zs k<zs.getD k 0∧zs.getD k 0<fin
 | [],a=>by simp [riseF]
 | z::zs,a=>by
   rw [riseF,Bool.and_eq_true,Bool.and_eq_true,decide_eq_true_eq,decide_eq_true_eq,riseF_iff fin zs z]
   constructor
   ·rintro ⟨⟨h1,h2⟩,h3⟩ k hk
    cases k with
    | zero=>exact ⟨h1,h2⟩
    | succ k =>
      have:=h3 k (by simpa using hk)
      cases k with
      | zero=>exact this
      | succ k=>exact this
   ·intro h
    refine ⟨h 0 (by simp),fun k hk => ?_⟩
    have:=h (k+1) (by simpa using hk)
    cases k with
    | zero=>exact this
    | succ k=>exact this
theorem riseL_iff (fin:Int) (zs:List Int):riseL fin zs=true↔∀ k,k<zs.length→prevL (-1) zs k<zs.getD k 0∧zs.getD k 0<fin:=riseF_iff fin zs (-1)
theorem riseF_len (fin:Int):∀ (zs:List Int) (a:Int),riseF fin a zs=true→zs≠[]→(zs.length:Int)≤fin - a - 1
 | [],_,_,h=>absurd rfl h
 | [z],a,h,_=>by simp [riseF] at h;simp;omega
 | z::y::zs,a,h,_=>by
   rw [riseF,Bool.and_eq_true,Bool.and_eq_true,decide_eq_true_eq] at h
   have:=riseF_len fin (y::zs) z h.2 (by simp)
   rw [List.length_cons,Int.natCast_add]
   omega
def oddL (p:Post):Bool:=p.2.isEmpty || !riseL 1048576 p.2
def docsL (ps:List Post):List Int:=ps.map (·.1)
def isL (ps:List Post):Bool:=riseL 65536 (docsL ps) && !ps.any oddL
theorem isL_iff (ps:List Post):isL ps=true↔riseL 65536 (docsL ps)=true∧∀ p∈ps,p.2≠[]∧riseL 1048576 p.2=true:=by
 unfold isL
 rw [Bool.and_eq_true,Bool.not_eq_true',List.any_eq_false]
 constructor
 ·rintro ⟨h1,h2⟩
  refine ⟨h1,fun p hp => ?_⟩
  have:=h2 p hp
  unfold oddL at this
  simp at this
  exact ⟨by simpa using this.1,this.2⟩
 ·rintro ⟨h1,h2⟩
  refine ⟨h1,fun p hp => ?_⟩
  have:=h2 p hp
  unfold oddL
  simp [this.1,this.2]
def okP (n:Int) (p:Post):Prop:=n≤p.1∧p.1<65536∧p.2≠[]∧riseL 1048576 p.2=true
def okL:Int→List Post→Prop
 | _,[]=>True
 | n,p::ps=>okP n p∧okL (p.1+1) ps
theorem okL_iff:∀ (ps:List Post) (n:Int),okL n ps↔riseF 65536 (n - 1) (docsL ps)=true∧∀ p∈ps,p.2≠[]∧riseL 1048576 p.2=true
 | [],n=>by simp [okL,docsL,riseF]
 | p::ps,n=>by
   have e:docsL (p::ps)=p.1::docsL ps:=rfl
   have ih:=okL_iff ps (p.1+1)
   rw [show p.1+1 - 1=p.1 by omega] at ih
   rw [okL,ih,e,riseF,Bool.and_eq_true,Bool.and_eq_true,decide_eq_true_eq,decide_eq_true_eq,List.forall_mem_cons]
   unfold okP
   constructor
   ·rintro ⟨⟨h1,h2,h3,h4⟩,h5,h6⟩;exact ⟨⟨⟨by omega,h2⟩,h5⟩,⟨h3,h4⟩,h6⟩
   ·rintro ⟨⟨⟨h1,h2⟩,h5⟩,⟨h3,h4⟩,h6⟩;exact ⟨⟨by omega,h2,h3,h4⟩,h5,h6⟩
theorem isL_ok (ps:List Post):isL ps=true↔okL 0 ps:=by
 rw [isL_iff,okL_iff];rfl
def nextL:Int→List Post→Int
 | n,[]=>n
 | _,p::ps=>nextL (p.1+1) ps
theorem nextL_append:∀ (a b:List Post) (n:Int),nextL n (a++b)=nextL (nextL n a) b
 | [],_,_=>rfl
 | p::a,b,n=>nextL_append a b (p.1+1)
theorem okL_append:∀ (a b:List Post) (n:Int),okL n (a++b)↔okL n a∧okL (nextL n a) b
 | [],_,_=>by simp [okL,nextL]
 | p::a,b,n=>by rw [List.cons_append,okL,okL,nextL,okL_append a b (p.1+1),and_assoc]
theorem nextL_bound:∀ (ps:List Post) (n:Int),okL n ps→n≤nextL n ps∧(n≤65536→nextL n ps≤65536)∧(ps.length:Int)≤nextL n ps - n
 | [],n,_=>by simp [nextL]
 | p::ps,n,h=>by
   rw [okL] at h
   have h1:=h.1
   unfold okP at h1
   have:=nextL_bound ps (p.1+1) h.2
   rw [nextL,List.length_cons,Int.natCast_add]
   omega
theorem okL_len (ps:List Post) (h:okL 0 ps):ps.length≤65536:=by
 have:=nextL_bound ps 0 h
 omega
theorem okL_take {ps:List Post} {n:Int} (h:okL n ps) (k:Nat):okL n (ps.take k):=by
 rw [← List.take_append_drop k ps,okL_append] at h;exact h.1
theorem okL_drop {ps:List Post} {n:Int} (h:okL n ps) (k:Nat):okL (nextL n (ps.take k)) (ps.drop k):=by
 have h':=h
 rw [← List.take_append_drop k ps,okL_append] at h';exact h'.2
def gapsL:Int→List Int→List UInt8
 | _,[]=>[]
 | n,z::zs=>bytesL (z - n).toNat++gapsL (z+1) zs
def postL (n:Int) (p:Post):List UInt8:=bytesL (p.1 - n).toNat++(bytesL p.2.length++gapsL 0 p.2)
def bodyL:Int→List Post→List UInt8
 | _,[]=>[]
 | n,p::ps=>postL n p++bodyL (p.1+1) ps
theorem bodyL_append:∀ (a b:List Post) (n:Int),bodyL n (a++b)=bodyL n a++bodyL (nextL n a) b
 | [],_,_=>rfl
 | p::a,b,n=>by rw [List.cons_append,bodyL,bodyL,nextL,bodyL_append a b (p.1+1),List.append_assoc]
def lastP:Int→List Int→Int
 | n,[]=>n
 | _,z::zs=>lastP (z+1) zs
theorem lastP_snoc:∀ (zs:List Int) (n z:Int),lastP n (zs++[z])=z+1
 | [],n,z=>rfl
 | y::zs,n,z=>lastP_snoc zs (y+1) z
theorem gapsL_snoc:∀ (zs:List Int) (n z:Int),gapsL n (zs++[z])=gapsL n zs++bytesL (z - lastP n zs).toNat
 | [],n,z=>by simp [gapsL,lastP]
 | y::zs,n,z=>by
   rw [List.cons_append,gapsL,gapsL,gapsL_snoc zs (y+1) z,List.append_assoc]
   rfl
theorem riseF_snoc (fin:Int):∀ (zs:List Int) (n z:Int),riseF fin (n - 1) (zs++[z])=(riseF fin (n - 1) zs&&(decide (lastP n zs≤z)&&decide (z<fin)))
 | [],n,z=>by
   show (decide (n - 1<z)&&decide (z<fin)&&true)=(true&&(decide (n≤z)&&decide (z<fin)))
   have e:(n - 1<z)=(n≤z):=propext ⟨fun h=>by omega,fun h=>by omega⟩
   simp only [e,Bool.and_true,Bool.true_and]
 | y::zs,n,z=>by
   have:=riseF_snoc fin zs (y+1) z
   rw [show y+1 - 1=y by omega] at this
   rw [List.cons_append,riseF,riseF,this,lastP,Bool.and_assoc,Bool.and_assoc,Bool.and_assoc]
theorem lastP_bound (fin:Int):∀ (zs:List Int) (n:Int),n≤fin→riseF fin (n - 1) zs=true→n≤lastP n zs∧lastP n zs≤fin
 | [],n,h,_=>⟨Int.le_refl _,h⟩
 | z::zs,n,h,hr=>by
   rw [riseF,Bool.and_eq_true,Bool.and_eq_true,decide_eq_true_eq,decide_eq_true_eq] at hr
   have:=lastP_bound fin zs (z+1) (by omega) (by rw [show z+1 - 1=z by omega];exact hr.2)
   rw [lastP]
   omega
def endL (ps:List Post) (i:Nat):Nat:=(bodyL 0 (ps.take (32*i))).length
def h1L (ps:List Post) (i:Nat):Nat:=(nextL 0 (ps.take (32*(i+1))) - 1).toNat
def h2L (ps:List Post) (i:Nat):Nat:=endL ps (i+1) - endL ps i
def headL (ps:List Post) (i:Nat):List UInt8:=bytesL (h1L ps i)++bytesL (h2L ps i)
def headsR (ps:List Post):Nat→Nat→List UInt8
 | _,0=>[]
 | i,c+1=>headL ps i++headsR ps (i+1) c
theorem headsR_snoc (ps:List Post):∀ (c i:Nat),headsR ps i (c+1)=headsR ps i c++headL ps (i+c)
 | 0,i=>by simp [headsR]
 | c+1,i=>by rw [headsR,headsR_snoc ps c (i+1),headsR,List.append_assoc,show i+1+c=i+(c+1) by omega]
def cnt (n:Nat):Nat:=(n+31) / 32
def encL (ps:List Post):List UInt8:=bytesL ps.length++headsR ps 0 (cnt ps.length)++bodyL 0 ps
def Dec (b:List UInt8) (ps:List Post):Prop:=isL ps=true∧encL ps=b
theorem gapsL_len:∀ (zs:List Int) (n:Int),zs.length≤(gapsL n zs).length∧(gapsL n zs).length≤10*zs.length
 | [],_=>by simp [gapsL]
 | z::zs,n=>by
   have:=gapsL_len zs (z+1)
   have h:=bytesL_length (z - n).toNat
   rw [gapsL,List.length_append,List.length_cons]
   omega
theorem postL_len (n:Int) (p:Post):2+p.2.length≤(postL n p).length∧(postL n p).length≤20+10*p.2.length:=by
 have h1:=bytesL_length (p.1 - n).toNat
 have h2:=bytesL_length p.2.length
 have h3:=gapsL_len p.2 0
 unfold postL
 rw [List.length_append,List.length_append]
 omega
def sumL:List Post→Nat
 | []=>0
 | p::ps=>p.2.length+sumL ps
theorem bodyL_len:∀ (ps:List Post) (n:Int),(bodyL n ps).length≤20*ps.length+10*sumL ps
 | [],_=>by simp [bodyL]
 | p::ps,n=>by
   have:=bodyL_len ps (p.1+1)
   have h:=postL_len n p
   rw [bodyL,sumL,List.length_append,List.length_cons]
   omega
theorem bodyL_least:∀ (ps:List Post) (n:Int),okL n ps→3*ps.length≤(bodyL n ps).length
 | [],_,_=>by simp [bodyL]
 | p::ps,n,h=>by
   rw [okL] at h
   have:=bodyL_least ps (p.1+1) h.2
   have h3:=postL_len n p
   have h4:=List.length_pos_iff.2 h.1.2.2.1
   rw [bodyL,List.length_append,List.length_cons]
   omega
theorem sumL_take:∀ (ps:List Post) (k:Nat),sumL (ps.take k)≤sumL ps
 | [],k=>by simp [sumL]
 | p::ps,0=>by simp [sumL]
 | p::ps,k+1=>by
   have:=sumL_take ps k
   rw [List.take_succ_cons,sumL,sumL];omega
theorem headsR_len (ps:List Post):∀ (c i:Nat),(headsR ps i c).length≤20*c
 | 0,i=>by simp [headsR]
 | c+1,i=>by
   have:=headsR_len ps c (i+1)
   have h1:=bytesL_length (h1L ps i)
   have h2:=bytesL_length (h2L ps i)
   rw [headsR,headL,List.length_append,List.length_append]
   omega
theorem endL_le (ps:List Post) (i:Nat):endL ps i≤20*ps.length+10*sumL ps:=by
 have:=bodyL_len (ps.take (32*i)) 0
 have h:=sumL_take ps (32*i)
 have h2:(ps.take (32*i)).length≤ps.length:=List.length_take_le' _ _
 unfold endL
 omega
def getS (l:List UInt8):Option (Nat×List UInt8):=if (getL l).2.2=0 then some ((getL l).1,l.drop (getL l).2.1) else none
theorem getS_put {n:Nat} (hn:n<18446744073709551616) (r:List UInt8):getS (bytesL n++r)=some (n,r):=by
 unfold getS
 rw [getL_put n hn r]
 simp
theorem getS_back {l r:List UInt8} {n:Nat} (h:getS l=some (n,r)):l=bytesL n++r∧n<18446744073709551616∧r.length<l.length:=by
 unfold getS at h
 split at h
 ·rename_i h0
  simp only [Option.some.injEq,Prod.mk.injEq] at h
  obtain ⟨h1,h2⟩:=h
  have hb:=getL_back (l:=l) (n:=(getL l).1) (k:=(getL l).2.1) (by rw [← h0])
  have hl:=getL_bounds l
  have h3:=hl.2.2.2 h0
  subst h1 h2
  exact ⟨hb.symm,hl.1,by rw [List.length_drop];omega⟩
 ·cases h
theorem getS_nil:getS []=none:=by
 unfold getS
 rw [show getL []=(0,0,6) from getF_nil 0 0]
 simp
def numL (lo hi:Int) (l:List UInt8):Option (Nat×List UInt8):=match getS l with
 | some (n,r)=>if lo≤(n:Int)∧(n:Int)≤hi then some (n,r) else none
 | none=>none
theorem numL_put {lo hi:Int} {n:Nat} (hn:n<18446744073709551616) (h1:lo≤(n:Int)) (h2:(n:Int)≤hi) (r:List UInt8):numL lo hi (bytesL n++r)=some (n,r):=by
 unfold numL
 rw [getS_put hn]
 simp [h1,h2]
theorem numL_back {lo hi:Int} {l r:List UInt8} {n:Nat} (h:numL lo hi l=some (n,r)):l=bytesL n++r∧n<18446744073709551616∧r.length<l.length∧lo≤(n:Int)∧(n:Int)≤hi:=by
 unfold numL at h
 split at h
 ·rename_i m s hs
  split at h
  ·rename_i hb
   simp only [Option.some.injEq,Prod.mk.injEq] at h
   obtain ⟨rfl,rfl⟩:=h
   have:=getS_back hs
   exact ⟨this.1,this.2.1,this.2.2,hb.1,hb.2⟩
  ·cases h
 ·cases h
theorem numL_nil (lo hi:Int):numL lo hi []=none:=by unfold numL;rw [getS_nil]
theorem bytes_det {a b:Nat} {l m:List UInt8} (ha:a<18446744073709551616) (hb:b<18446744073709551616) (h:bytesL a++l=bytesL b++m):a=b∧l=m:=by
 have h1:=getS_put ha l
 rw [h,getS_put hb] at h1
 simp only [Option.some.injEq,Prod.mk.injEq] at h1
 exact ⟨h1.1.symm,h1.2.symm⟩
theorem gaps_det (fin:Int) (hf:fin≤1048576):∀ (xs ys:List Int) (n:Int) (l m:List UInt8),0≤n→xs.length=ys.length→riseF fin (n - 1) xs=true→riseF fin (n - 1) ys=true→gapsL n xs++l=gapsL n ys++m→xs=ys∧l=m
 | [],[],n,l,m,_,_,_,_,h=>⟨rfl,h⟩
 | [],_::_,_,_,_,_,h,_,_,_=>by simp at h
 | _::_,[],_,_,_,_,h,_,_,_=>by simp at h
 | x::xs,y::ys,n,l,m,hn,hl,hx,hy,h=>by
   rw [riseF,Bool.and_eq_true,Bool.and_eq_true,decide_eq_true_eq,decide_eq_true_eq] at hx hy
   rw [gapsL,gapsL,List.append_assoc,List.append_assoc] at h
   obtain ⟨h1,h2⟩:=bytes_det (by omega) (by omega) h
   have e:x=y:=by omega
   subst e
   obtain ⟨h3,h4⟩:=gaps_det fin hf xs ys (x+1) l m (by omega) (by simpa using hl) (by rw [show x+1 - 1=x by omega];exact hx.2) (by rw [show x+1 - 1=x by omega];exact hy.2) h2
   exact ⟨by rw [h3],h4⟩
theorem riseL_len {zs:List Int} (h:riseL 1048576 zs=true):zs.length≤1048576:=by
 by_cases h0:zs=[]
 ·subst h0;simp
 ·have:=riseF_len 1048576 zs (-1) h h0
  omega
def PostAt (n:Int) (l:List UInt8) (p:Post) (r:List UInt8):Prop:=okP n p∧l=postL n p++r
theorem postAt_det {n:Int} {l:List UInt8} {p q:Post} {r s:List UInt8} (hn:0≤n) (h:PostAt n l p r) (k:PostAt n l q s):p=q∧r=s:=by
 obtain ⟨hp,h⟩:=h
 obtain ⟨hq,k⟩:=k
 rw [h] at k
 unfold postL at k
 simp only [List.append_assoc] at k
 unfold okP at hp hq
 have lp:=riseL_len hp.2.2.2
 have lq:=riseL_len hq.2.2.2
 obtain ⟨h1,h2⟩:=bytes_det (by omega) (by omega) k
 obtain ⟨h3,h4⟩:=bytes_det (by omega) (by omega) h2
 obtain ⟨h5,h6⟩:=gaps_det 1048576 (by omega) p.2 q.2 0 r s (by omega) h3 hp.2.2.2 hq.2.2.2 h4
 exact ⟨Prod.ext (by omega) h5,h6⟩
def Comp (b:List UInt8) (n j:Nat) (ps:List Post) (l:List UInt8):Prop:=∀ PS,Dec b PS→PS.length=n∧ps=PS.take j∧l=bodyL (nextL 0 ps) (PS.drop j)
theorem nextL_nonneg {ps:List Post} (h:okL 0 ps):0≤nextL 0 ps:=(nextL_bound ps 0 h).1
theorem comp_step {b:List UInt8} {n j:Nat} {ps:List Post} {l r:List UInt8} {p:Post} (h:Comp b n j ps l) (hj:j<n) (ho:okL 0 ps) (hp:PostAt (nextL 0 ps) l p r):Comp b n (j+1) (ps++[p]) r:=by
 intro PS hPS
 obtain ⟨h1,h2,h3⟩:=h PS hPS
 have hlt:j<PS.length:=by omega
 have hd:PS.drop j=PS[j]::PS.drop (j+1):=List.drop_eq_getElem_cons hlt
 have hok:=okL_drop ((isL_ok PS).1 hPS.1) j
 rw [← h2,hd,okL] at hok
 rw [hd,bodyL] at h3
 obtain ⟨h4,h5⟩:=postAt_det (nextL_nonneg ho) hp ⟨hok.1,h3⟩
 refine ⟨h1,?_,?_⟩
 ·rw [List.take_succ_eq_append_getElem hlt,← h2,h4]
 ·rw [h5,nextL_append,h4];rfl
def NoRow (b:List UInt8):Prop:=∀ PS,¬ Dec b PS
theorem comp_none {b:List UInt8} {n j:Nat} {ps:List Post} {l:List UInt8} (h:Comp b n j ps l) (hj:j<n) (hn:∀ p r,¬ PostAt (nextL 0 ps) l p r):NoRow b:=by
 intro PS hPS
 obtain ⟨h1,h2,h3⟩:=h PS hPS
 have hlt:j<PS.length:=by omega
 have hd:PS.drop j=PS[j]::PS.drop (j+1):=List.drop_eq_getElem_cons hlt
 have hok:=okL_drop ((isL_ok PS).1 hPS.1) j
 rw [← h2,hd,okL] at hok
 rw [hd,bodyL] at h3
 exact hn _ _ ⟨hok.1,h3⟩
theorem comp_end {b:List UInt8} {n:Nat} {ps PS:List Post} {l:List UInt8} (h:Comp b n n ps l) (hPS:Dec b PS):ps=PS∧l=[]:=by
 obtain ⟨h1,h2,h3⟩:=h PS hPS
 rw [← h1,List.take_length] at h2
 rw [← h1,List.drop_length,bodyL] at h3
 exact ⟨h2,h3⟩
def CompH (b:List UInt8) (n i:Nat) (hs:List (Nat×Nat)) (l:List UInt8):Prop:=∀ PS,Dec b PS→PS.length=n∧hs=(List.range i).map (fun k=>(h1L PS k,h2L PS k))∧l=headsR PS i (cnt n - i)++bodyL 0 PS
theorem dec_len {b:List UInt8} {PS:List Post} (h:Dec b PS):3*PS.length+1≤b.length∧PS.length≤65536:=by
 have hok:=(isL_ok PS).1 h.1
 have h1:=bodyL_least PS 0 hok
 have h2:=okL_len PS hok
 have h3:=bytesL_length PS.length
 rw [← h.2]
 unfold encL
 rw [List.length_append,List.length_append]
 omega
theorem dec_body {b:List UInt8} {PS:List Post} (h:Dec b PS):(bodyL 0 PS).length≤b.length:=by
 rw [← h.2]
 unfold encL
 rw [List.length_append]
 omega
theorem endL_mono {PS:List Post} (i:Nat):endL PS i≤(bodyL 0 PS).length:=by
 unfold endL
 conv=>rhs;rw [← List.take_append_drop (32*i) PS,bodyL_append,List.length_append]
 omega
theorem h_small {b:List UInt8} {PS:List Post} (h:Dec b PS) (i:Nat):h1L PS i≤65535∧h2L PS i≤b.length:=by
 have hok:=(isL_ok PS).1 h.1
 have h1:=nextL_bound _ 0 (okL_take hok (32*(i+1)))
 have h2:=dec_body h
 have h3:=endL_mono (PS:=PS) (i+1)
 unfold h1L h2L
 omega
theorem compH_start {b l:List UInt8} {n:Nat} {m:Int} (hb:b.length<4611686018427387904) (h:numL 0 m b=some (n,l)):CompH b n 0 [] l:=by
 intro PS hPS
 have hl:=dec_len hPS
 have h2:=numL_back h
 have h3:=hPS.2
 unfold encL at h3
 rw [h2.1,List.append_assoc] at h3
 obtain ⟨h4,h5⟩:=bytes_det (by omega) h2.2.1 h3
 exact ⟨h4,rfl,by rw [← h5,h4,Nat.sub_zero]⟩
theorem compH_none {b:List UInt8} {m:Int} (hm:m=min 65536 ((b.length / 3:Nat):Int)) (h:numL 0 m b=none):NoRow b:=by
 intro PS hPS
 have hl:=dec_len hPS
 have h3:=hPS.2
 unfold encL at h3
 rw [← h3,List.append_assoc,numL_put (by omega) (by omega) (by omega)] at h
 cases h
theorem headsR_cons {PS:List Post} {n i:Nat} (hi:i<cnt n):headsR PS i (cnt n - i)=headL PS i++headsR PS (i+1) (cnt n - (i+1)):=by
 rw [show cnt n - i=(cnt n - (i+1))+1 by omega,headsR]
theorem compH_step {b l l1 l2:List UInt8} {n i:Nat} {hs:List (Nat×Nat)} {x y:Nat} {m:Int} (hb:b.length<4611686018427387904) (h:CompH b n i hs l) (hi:i<cnt n) (h1:numL 0 m l=some (x,l1)) (h2:numL 0 m l1=some (y,l2)):CompH b n (i+1) (hs++[(x,y)]) l2:=by
 intro PS hPS
 obtain ⟨h3,h4,h5⟩:=h PS hPS
 have hsm:=h_small hPS i
 rw [headsR_cons hi,headL,List.append_assoc,List.append_assoc] at h5
 have k1:=numL_back h1
 have k2:=numL_back h2
 rw [k1.1,k2.1] at h5
 obtain ⟨e1,h5⟩:=bytes_det k1.2.1 (by omega) h5
 obtain ⟨e2,h5⟩:=bytes_det k2.2.1 (by omega) h5
 refine ⟨h3,?_,h5⟩
 rw [List.range_succ,List.map_append,← h4,e1,e2]
 rfl
theorem compH_none1 {b l:List UInt8} {n i:Nat} {hs:List (Nat×Nat)} (hb:b.length<4611686018427387904) (h:CompH b n i hs l) (hi:i<cnt n) (h1:numL 0 9223372036854775807 l=none):NoRow b:=by
 intro PS hPS
 obtain ⟨h3,h4,h5⟩:=h PS hPS
 have hsm:=h_small hPS i
 rw [h5,headsR_cons hi,headL,List.append_assoc,List.append_assoc,numL_put (by omega) (by omega) (by omega)] at h1
 cases h1
theorem compH_none2 {b l l1:List UInt8} {n i:Nat} {hs:List (Nat×Nat)} {x:Nat} (hb:b.length<4611686018427387904) (h:CompH b n i hs l) (hi:i<cnt n) (h1:numL 0 9223372036854775807 l=some (x,l1)) (h2:numL 0 9223372036854775807 l1=none):NoRow b:=by
 intro PS hPS
 obtain ⟨h3,h4,h5⟩:=h PS hPS
 have hsm:=h_small hPS i
 rw [h5,headsR_cons hi,headL,List.append_assoc,List.append_assoc,numL_put (by omega) (by omega) (by omega)] at h1
 simp only [Option.some.injEq,Prod.mk.injEq] at h1
 rw [← h1.2,numL_put (by omega) (by omega) (by omega)] at h2
 cases h2
theorem comp_start {b l:List UInt8} {n:Nat} {hs:List (Nat×Nat)} (h:CompH b n (cnt n) hs l):Comp b n 0 [] l:=by
 intro PS hPS
 obtain ⟨h3,h4,h5⟩:=h PS hPS
 rw [Nat.sub_self,headsR,List.nil_append] at h5
 exact ⟨h3,rfl,h5⟩
end Go.Proofs.YtdijhifdjbnkfaaGreat.PM
namespace Go.Proofs.YtdijhifdjbnkfaaGreat.CM
def step (s:Nat):Nat:=if s%2=1 then s / 2 ^^^ 3988292384 else s / 2
def steps:Nat→Nat→Nat
 | 0,s=>s
 | k+1,s=>steps k (step s)
def onB (s b:Nat):Nat:=steps 8 (s ^^^ b)
def run (s:Nat) (l:List UInt8):Nat:=l.foldl (fun s b=>onB s b.toNat) s
def notB (s:Nat):Nat:=4294967295 - s
def nextL (s:Nat) (l:List UInt8):Nat:=notB (run (notB s) l)
def sumL (l:List UInt8):Nat:=nextL 0 l
theorem xor_half (a b:Nat):(a ^^^ b) / 2=a / 2 ^^^ b / 2:=by
 have h:=Nat.shiftRight_xor_distrib (a:=a) (b:=b) (i:=1)
 rw [Nat.shiftRight_eq_div_pow,Nat.shiftRight_eq_div_pow,Nat.shiftRight_eq_div_pow] at h
 exact h
theorem xor_odd (a b:Nat):(a ^^^ b)%2=(a%2+b%2)%2:=by
 have h:=Nat.xor_mod_two_pow (a:=a) (b:=b) (n:=1)
 have ha:a%2=0∨a%2=1:=by omega
 have hb:b%2=0∨b%2=1:=by omega
 rw [show (2:Nat)^1=2 from rfl] at h
 rw [h]
 rcases ha with ha | ha<;>rcases hb with hb | hb<;>rw [ha,hb]<;>rfl
theorem xor4 (a b p:Nat):(a ^^^ p) ^^^ (b ^^^ p)=a ^^^ b:=by
 rw [Nat.xor_assoc,Nat.xor_comm b p,← Nat.xor_assoc p,Nat.xor_self,Nat.zero_xor]
theorem step_xor (a b:Nat):step (a ^^^ b)=step a ^^^ step b:=by
 unfold step
 rw [xor_odd,xor_half]
 by_cases ha:a%2=1<;>by_cases hb:b%2=1
 ·rw [if_pos ha,if_pos hb,if_neg (by omega),xor4]
 ·rw [if_pos ha,if_neg hb,if_pos (by omega),Nat.xor_assoc,Nat.xor_assoc,Nat.xor_comm 3988292384]
 ·rw [if_neg ha,if_pos hb,if_pos (by omega),Nat.xor_assoc]
 ·rw [if_neg ha,if_neg hb,if_neg (by omega)]
theorem step_lt {a:Nat} (h:a<4294967296):step a<4294967296:=by
 unfold step
 split
 ·exact Nat.xor_lt_two_pow (n:=32) (by omega) (by omega)
 ·omega
theorem step_even (x:Nat):step (2*x)=x:=by
 unfold step
 rw [if_neg (by omega)]
 omega
theorem steps_xor:∀ (k a b:Nat),steps k (a ^^^ b)=steps k a ^^^ steps k b
 | 0,_,_=>rfl
 | k+1,a,b=>by rw [steps,steps,steps,step_xor,steps_xor k]
theorem steps_lt:∀ (k:Nat) {a:Nat},a<4294967296→steps k a<4294967296
 | 0,_,h=>h
 | k+1,_,h=>steps_lt k (step_lt h)
theorem steps_none:∀ k,steps k 0=0
 | 0=>rfl
 | k+1=>by rw [steps,show step 0=0 from by decide,steps_none k]
theorem steps_byte (x:Nat):steps 8 (256*x)=x:=by
 have e:256*x=2*(2*(2*(2*(2*(2*(2*(2*x))))))):=by omega
 rw [e]
 simp only [steps,step_even]
theorem onB_lt {s b:Nat} (hs:s<4294967296) (hb:b<256):onB s b<4294967296:=steps_lt 8 (Nat.xor_lt_two_pow (n:=32) hs (by omega))
theorem run_cons (s:Nat) (b:UInt8) (l:List UInt8):run s (b::l)=run (onB s b.toNat) l:=rfl
theorem run_append (s:Nat) (l m:List UInt8):run s (l++m)=run (run s l) m:=by unfold run;rw [List.foldl_append]
theorem run_lt:∀ (l:List UInt8) {s:Nat},s<4294967296→run s l<4294967296
 | [],_,h=>h
 | b::l,_,h=>by rw [run_cons];exact run_lt l (onB_lt h b.toNat_lt)
theorem notB_lt (s:Nat):notB s<4294967296:=by unfold notB;omega
theorem notB_notB {s:Nat} (h:s<4294967296):notB (notB s)=s:=by unfold notB;omega
theorem nextL_lt (s:Nat) (l:List UInt8):nextL s l<4294967296:=notB_lt _
theorem nextL_append (s:Nat) (l m:List UInt8):nextL s (l++m)=nextL (nextL s l) m:=by
 unfold nextL
 rw [run_append,notB_notB (run_lt l (notB_lt s))]
end Go.Proofs.YtdijhifdjbnkfaaGreat.CM
namespace Go.Proofs.YtdijhifdjbnkfaaGreat.FM
open Go.Proofs.YtdijhifdjbnkfaaGreat.VM Go.Proofs.YtdijhifdjbnkfaaGreat.CM
def sumB (s:Nat):List UInt8:=[UInt8.ofNat (s / 16777216),UInt8.ofNat (s / 65536),UInt8.ofNat (s / 256),UInt8.ofNat s]
def fsum:List UInt8→Nat
 | [a,b,c,d]=>a.toNat*16777216+b.toNat*65536+c.toNat*256+d.toNat
 | _=>0
theorem sumB_length (s:Nat):(sumB s).length=4:=rfl
theorem fsum_sumB {s:Nat} (h:s<4294967296):fsum (sumB s)=s:=by
 simp only [sumB,fsum,UInt8.toNat_ofNat']
 omega
theorem four_of {l:List UInt8} (h:l.length=4):∃ a b c d,l=[a,b,c,d]:=by
 match l,h with
 | [a,b,c,d],_=>exact ⟨a,b,c,d,rfl⟩
theorem fsum_inj {l m:List UInt8} (hl:l.length=4) (hm:m.length=4) (h:fsum l=fsum m):l=m:=by
 obtain ⟨a,b,c,d,rfl⟩:=four_of hl
 obtain ⟨a',b',c',d',rfl⟩:=four_of hm
 simp only [fsum] at h
 have h1:=a.toNat_lt;have h2:=b.toNat_lt;have h3:=c.toNat_lt;have h4:=d.toNat_lt
 have h1':=a'.toNat_lt;have h2':=b'.toNat_lt;have h3':=c'.toNat_lt;have h4':=d'.toNat_lt
 have e1:a=a':=UInt8.toNat_inj.1 (by omega)
 have e2:b=b':=UInt8.toNat_inj.1 (by omega)
 have e3:c=c':=UInt8.toNat_inj.1 (by omega)
 have e4:d=d':=UInt8.toNat_inj.1 (by omega)
 rw [e1,e2,e3,e4]
theorem sumL_lt (l:List UInt8):sumL l<4294967296:=nextL_lt 0 l
def frameL (p:List UInt8):List UInt8:=bytesL p.length++(sumB (sumL (bytesL p.length++p))++p)
theorem frameL_length (p:List UInt8):(frameL p).length=(bytesL p.length).length+(4+p.length):=by
 unfold frameL
 rw [List.length_append,List.length_append,sumB_length]
theorem frameL_bounds (p:List UInt8):5+p.length≤(frameL p).length∧(frameL p).length≤14+p.length:=by
 have:=bytesL_length p.length
 rw [frameL_length]
 omega
def sizeL (n:Int):Int:=if n<0∨16777216<n then 0 else ((bytesL n.toNat).length:Int)+4+n
theorem sizeL_nat {n:Nat} (h:n≤16777216):sizeL (n:Int)=(((bytesL n).length+4+n:Nat):Int):=by
 unfold sizeL
 rw [if_neg (by omega),Int.toNat_natCast]
 omega
theorem sizeL_frame {p:List UInt8} (h:p.length≤16777216):sizeL (p.length:Int)=((frameL p).length:Int):=by
 rw [sizeL_nat h,frameL_length]
 omega
def getR (l:List UInt8):List UInt8×Nat×Int :=
 if (getL l).2.2=6 then ([],0,41)
 else if (getL l).2.2≠0∨16777216<(getL l).1 then ([],0,40)
 else if (l.drop (getL l).2.1).length<4+(getL l).1 then ([],0,41)
 else if fsum ((l.drop (getL l).2.1).take 4)≠sumL (l.take (getL l).2.1++((l.drop (getL l).2.1).drop 4).take (getL l).1) then ([],0,40)
 else (((l.drop (getL l).2.1).drop 4).take (getL l).1,(getL l).2.1+(4+(getL l).1),0)
def restR (l:List UInt8):List UInt8:=if (getR l).2.2=0 then l.drop (getR l).2.1 else []
theorem getL_cases (l:List UInt8):(∃ n k,getL l=(n,k,0)∧n<18446744073709551616∧1≤k∧k≤l.length)∨getL l=(0,0,6)∨getL l=(0,0,20):=by
 have h:=getL_bounds l
 rcases h.2.2.1 with h0 | h0
 ·exact .inl ⟨(getL l).1,(getL l).2.1,by rw [← h0],h.1,h.2.2.2 h0,h.2.1⟩
 ·exact .inr h0
theorem getR_short {l:List UInt8} (h:getL l=(0,0,6)):getR l=([],0,41):=by unfold getR;rw [h];rfl
theorem getR_bad {l:List UInt8} (h:getL l=(0,0,20)):getR l=([],0,40):=by unfold getR;rw [h];rfl
theorem getR_most {l:List UInt8} {n k:Nat} (h:getL l=(n,k,0)) (hn:16777216<n):getR l=([],0,40):=by
 unfold getR
 rw [h]
 show (if (0:Int)=6 then _ else if (0:Int)≠0∨16777216<n then _ else _)=_
 rw [if_neg (by omega),if_pos (.inr hn)]
theorem getR_ok {l:List UInt8} {n k:Nat} (h:getL l=(n,k,0)) (hn:n≤16777216) :
  getR l=if (l.drop k).length<4+n then ([],0,41) else if fsum ((l.drop k).take 4)≠sumL (l.take k++((l.drop k).drop 4).take n) then ([],0,40) else (((l.drop k).drop 4).take n,k+(4+n),0):=by
 unfold getR
 rw [h]
 show (if (0:Int)=6 then _ else if (0:Int)≠0∨16777216<n then _ else _)=_
 rw [if_neg (by omega),if_neg (by omega)]
theorem restR_ok {l p:List UInt8} {k:Nat} (h:getR l=(p,k,0)):restR l=l.drop k:=by unfold restR;rw [h];rfl
theorem restR_err {l:List UInt8} {e:Int} (h:getR l=([],0,e)) (h0:e≠0):restR l=[]:=by unfold restR;rw [h];exact if_neg h0
theorem getR_put {p:List UInt8} (hp:p.length≤16777216) (r:List UInt8):getR (frameL p++r)=(p,(frameL p).length,0):=by
 have h:getL (frameL p++r)=(p.length,(bytesL p.length).length,0):=by
  unfold frameL
  rw [List.append_assoc]
  exact getL_put _ (by omega) _
 have hd:(frameL p++r).drop (bytesL p.length).length=sumB (sumL (bytesL p.length++p))++(p++r):=by
  unfold frameL
  rw [List.append_assoc,List.drop_left,List.append_assoc]
 have ht:(frameL p++r).take (bytesL p.length).length=bytesL p.length:=by
  unfold frameL
  rw [List.append_assoc,List.take_left]
 rw [getR_ok h hp,hd,ht]
 have e1:(sumB (sumL (bytesL p.length++p))++(p++r)).take 4=sumB (sumL (bytesL p.length++p)):=List.take_left' (sumB_length _)
 have e2:((sumB (sumL (bytesL p.length++p))++(p++r)).drop 4)=p++r:=List.drop_left' (sumB_length _)
 rw [e1,e2,List.take_left,fsum_sumB (sumL_lt _),if_neg (by rw [List.length_append,List.length_append,sumB_length];omega),if_neg (by simp),frameL_length]
theorem getR_back {l p:List UInt8} {k:Nat} (h:getR l=(p,k,0)):p.length≤16777216∧k=(frameL p).length∧frameL p++l.drop k=l:=by
 rcases getL_cases l with ⟨n,q,hg,hb,hq1,hq2⟩ | hg | hg
 ·by_cases hn:n≤16777216
  ·rw [getR_ok hg hn] at h
   split at h
   ·cases h
   ·rename_i hlen
    split at h
    ·cases h
    ·rename_i hs
     simp only [ne_eq,Decidable.not_not] at hs
     simp only [Prod.mk.injEq] at h
     obtain ⟨hp,hk,_⟩:=h
     have hbk:=getL_back hg
     have hl:((l.drop q).drop 4).length=(l.drop q).length - 4:=by rw [List.length_drop]
     have hpl:p.length=n:=by rw [← hp,List.length_take];omega
     have hbt:bytesL n=l.take q:=by
      have e:l.take q++l.drop q=l:=List.take_append_drop q l
      exact List.append_cancel_right (hbk.trans e.symm)
     have hbl:(bytesL n).length=q:=by rw [hbt,List.length_take];omega
     have hd4:((l.drop q).take 4).length=4:=by rw [List.length_take];omega
     have hsum:(l.drop q).take 4=sumB (sumL (bytesL n++p)):=by
      refine fsum_inj hd4 (sumB_length _) ?_
      rw [fsum_sumB (sumL_lt _),hs,hbt,hp]
     have hfl:(frameL p).length=k:=by rw [frameL_length,hpl,hbl];omega
     refine ⟨by omega,hfl.symm,?_⟩
     unfold frameL
     rw [hpl,← hsum,hbt,← hp,← hk,List.append_assoc,List.append_assoc]
     rw [← List.drop_drop,← List.drop_drop,List.take_append_drop,List.take_append_drop,List.take_append_drop]
  ·rw [getR_most hg (by omega)] at h
   cases h
 ·rw [getR_short hg] at h
  cases h
 ·rw [getR_bad hg] at h
  cases h
theorem getR_err (l:List UInt8):(∃ p k,getR l=(p,k,0))∨getR l=([],0,41)∨getR l=([],0,40):=by
 rcases getL_cases l with ⟨n,q,hg,hb,hq1,hq2⟩ | hg | hg
 ·by_cases hn:n≤16777216
  ·rw [getR_ok hg hn]
   split
   ·exact .inr (.inl rfl)
   ·split
    ·exact .inr (.inr rfl)
    ·exact .inl ⟨_,_,rfl⟩
  ·exact .inr (.inr (getR_most hg (by omega)))
 ·exact .inr (.inl (getR_short hg))
 ·exact .inr (.inr (getR_bad hg))
def framesL (ps:List (List UInt8)):List UInt8:=(ps.map frameL).flatten
theorem framesL_nil:framesL []=[]:=rfl
theorem framesL_cons (p:List UInt8) (ps:List (List UInt8)):framesL (p::ps)=frameL p++framesL ps:=by simp [framesL]
theorem framesL_append (ps qs:List (List UInt8)):framesL (ps++qs)=framesL ps++framesL qs:=by simp [framesL]
theorem framesL_snoc (ps:List (List UInt8)) {k:Nat} (hk:k<ps.length):framesL (ps.take (k+1))=framesL (ps.take k)++frameL ps[k]:=by
 rw [List.take_succ_eq_append_getElem hk,framesL_append,framesL_cons,framesL_nil,List.append_nil]
theorem framesL_take (ps:List (List UInt8)) (k:Nat):(framesL (ps.take k)).length≤(framesL ps).length:=by
 have h:framesL ps=framesL (ps.take k)++framesL (ps.drop k):=by rw [← framesL_append,List.take_append_drop]
 rw [h,List.length_append]
 omega
inductive Splits:List UInt8→List (List UInt8)→Nat→Int→Prop
 | none_:Splits [] [] 0 0
 | stop {l:List UInt8} {e:Int}:l≠[]→getR l=([],0,e)→e≠0→Splits l [] 0 e
 | more {p r:List UInt8} {ps:List (List UInt8)} {k:Nat} {e:Int}:p.length≤16777216→Splits r ps k e→Splits (frameL p++r) (p::ps) ((frameL p).length+k) e
theorem frameL_inj {p q r s:List UInt8} (hp:p.length≤16777216) (hq:q.length≤16777216) (h:frameL p++r=frameL q++s):p=q∧r=s:=by
 have h1:=getR_put hp r
 rw [h,getR_put hq s] at h1
 simp only [Prod.mk.injEq] at h1
 obtain ⟨rfl,_,_⟩:=h1
 exact ⟨rfl,List.append_cancel_left h⟩
theorem Splits.told {l:List UInt8} {ps:List (List UInt8)} {k:Nat} {e:Int} (h:Splits l ps k e):framesL ps=l.take k∧k≤l.length∧(framesL ps).length=k∧(∀ p∈ps,p.length≤16777216)∧(e=0↔k=l.length)∧(e=0∨e=41∨e=40):=by
 induction h with
 | none_=>simp [framesL]
 | stop hne hg he =>
   rename_i l e
   have hl:l.length≠0:=fun h=>hne (List.eq_nil_of_length_eq_zero h)
   refine ⟨by simp [framesL],by omega,rfl,by simp,⟨fun h=>absurd h he,fun h=>by omega⟩,?_⟩
   rcases getR_err l with ⟨p,k,h⟩ | h | h
   ·rw [h] at hg
    simp only [Prod.mk.injEq] at hg
    exact .inl hg.2.2.symm
   ·rw [h] at hg
    simp only [Prod.mk.injEq,true_and] at hg
    exact .inr (.inl hg.symm)
   ·rw [h] at hg
    simp only [Prod.mk.injEq,true_and] at hg
    exact .inr (.inr hg.symm)
 | more hp hs ih =>
   obtain ⟨h1,h2,h3,h4,h5,h6⟩:=ih
   rename_i p r ps k e
   refine ⟨?_,?_,?_,?_,?_,h6⟩
   ·rw [framesL_cons,h1,List.take_append,List.take_of_length_le (l:=frameL p) (by omega),Nat.add_sub_cancel_left]
   ·rw [List.length_append];omega
   ·rw [framesL_cons,List.length_append,h3]
   ·intro q hq
    rcases List.mem_cons.1 hq with rfl | hq
    ·exact hp
    ·exact h4 q hq
   ·rw [List.length_append,h5]
    omega
end Go.Proofs.YtdijhifdjbnkfaaGreat.FM
namespace Go.Proofs.YtdijhifdjbnkfaaGreat.BM
open Go
def stepN (h:Int) (c:UInt8):Int:=IntKind.u64.wrap (bits .xor .u64 h (c.toNat:Int)*1099511628211)
def numL (l:List UInt8):Int:=l.foldl stepN 14695981039346656037
theorem wrap_u64 (x:Int):IntKind.u64.wrap x=x%18446744073709551616:=by
 simp [IntKind.wrap,IntKind.signed,IntKind.bits]
theorem numL_range (l:List UInt8):0≤numL l∧numL l<18446744073709551616:=by
 unfold numL
 rcases List.eq_nil_or_concat l with rfl | ⟨l',c,rfl⟩
 ·simp
 ·rw [List.concat_eq_append,List.foldl_append]
  simp only [List.foldl_cons,List.foldl_nil,stepN,wrap_u64]
  omega
theorem numL_next {l:List UInt8} {k:Nat} (hk:k<l.length):numL (l.take (k+1))=stepN (numL (l.take k)) l[k]:=by
 unfold numL
 rw [List.take_succ_eq_append_getElem hk,List.foldl_append]
 rfl
def firstL (l:List UInt8):Nat:=(numL l).toNat%4294967296
def halfL (l:List UInt8):Nat:=(numL l).toNat / 4294967296
def secondL (l:List UInt8):Nat:=if halfL l%2=0 then halfL l+1 else halfL l
theorem firstL_lt (l:List UInt8):firstL l<4294967296:=Nat.mod_lt _ (by decide)
theorem halfL_lt (l:List UInt8):halfL l<4294967296:=by have:=(numL_range l).2;unfold halfL;omega
theorem secondL_lt (l:List UInt8):secondL l<4294967296:=by have:=halfL_lt l;unfold secondL;split<;>omega
def placeL (m:Nat) (l:List UInt8) (i:Nat):Nat:=(firstL l+i*secondL l)%m
theorem placeL_lt {m:Nat} (l:List UInt8) (i:Nat) (h:0<m):placeL m l i<m:=Nat.mod_lt _ h
def bitB (c:UInt8) (j:Nat):Bool:=c.toNat / 2^j%2 == 1
def putB (c:UInt8) (j:Nat):UInt8:=if bitB c j then c else UInt8.ofNat (c.toNat+2^j)
def hasL (L:List UInt8) (k:Nat):Bool:=bitB (L.getD (k / 8) 0) (k%8)
def putL (L:List UInt8) (k:Nat):List UInt8:=L.set (k / 8) (putB (L.getD (k / 8) 0) (k%8))
theorem putL_len (L:List UInt8) (k:Nat):(putL L k).length=L.length:=by simp [putL]
def put1 (st:List UInt8×Nat) (k:Nat):List UInt8×Nat:=if hasL st.1 k then st else (putL st.1 k,st.2+1)
theorem put1_len (st:List UInt8×Nat) (k:Nat):(put1 st k).1.length=st.1.length:=by unfold put1;split<;>simp [putL_len]
def addI (L:List UInt8) (s:List UInt8) (i:Nat):List UInt8×Nat:=(List.range i).foldl (fun st i=>put1 st (placeL (8*L.length) s i)) (L,0)
theorem addI_next (L s:List UInt8) (i:Nat):addI L s (i+1)=put1 (addI L s i) (placeL (8*L.length) s i):=by
 unfold addI
 rw [List.range_succ,List.foldl_append]
 rfl
theorem addI_len (L s:List UInt8) (i:Nat):(addI L s i).1.length=L.length:=by
 induction i with
 | zero=>rfl
 | succ i ih=>rw [addI_next,put1_len,ih]
theorem put1_count (st:List UInt8×Nat) (k:Nat):(put1 st k).2≤st.2+1:=by unfold put1;split<;>simp
theorem addI_count (L s:List UInt8) (i:Nat):(addI L s i).2≤i:=by
 induction i with
 | zero=>exact Nat.le_refl _
 | succ i ih=>rw [addI_next];have:=put1_count (addI L s i) (placeL (8*L.length) s i);omega
def addT (L:List UInt8) (s:List UInt8):List UInt8×Nat:=addI L s 4
theorem addT_len (L s:List UInt8):(addT L s).1.length=L.length:=addI_len L s 4
theorem addT_count (L s:List UInt8):(addT L s).2≤4:=addI_count L s 4
def addA (L:List UInt8) (ss:List (List UInt8)):List UInt8×Nat:=ss.foldl (fun st s=>((addT st.1 s).1,st.2+(addT st.1 s).2)) (L,0)
theorem addA_next {L:List UInt8} {ss:List (List UInt8)} {k:Nat} (hk:k<ss.length):addA L (ss.take (k+1))=((addT (addA L (ss.take k)).1 ss[k]).1,(addA L (ss.take k)).2+(addT (addA L (ss.take k)).1 ss[k]).2):=by
 unfold addA
 rw [List.take_succ_eq_append_getElem hk,List.foldl_append]
 rfl
theorem addA_len (L:List UInt8) (ss:List (List UInt8)) (k:Nat):(addA L (ss.take k)).1.length=L.length:=by
 induction k with
 | zero=>rfl
 | succ k ih =>
   by_cases hk:k<ss.length
   ·rw [addA_next hk,addT_len,ih]
   ·rw [List.take_of_length_le (by omega)] at ih ⊢
    exact ih
theorem addA_count (L:List UInt8) (ss:List (List UInt8)) (k:Nat):(addA L (ss.take k)).2≤4*k:=by
 induction k with
 | zero=>exact Nat.le_refl _
 | succ k ih =>
   by_cases hk:k<ss.length
   ·rw [addA_next hk]
    have:=addT_count (addA L (ss.take k)).1 ss[k]
    dsimp only
    omega
   ·rw [List.take_of_length_le (by omega)] at ih ⊢
    omega
theorem addA_all (L:List UInt8) (ss:List (List UInt8)):(addA L ss).1.length=L.length:=by
 have:=addA_len L ss ss.length
 rwa [List.take_length] at this
def mayI (L s:List UInt8) (i:Nat):Bool:=(List.range i).all fun i=>hasL L (placeL (8*L.length) s i)
theorem mayI_next (L s:List UInt8) (i:Nat):mayI L s (i+1)=(mayI L s i&&hasL L (placeL (8*L.length) s i)):=by
 unfold mayI
 rw [List.range_succ,List.all_append]
 simp
def mayL (L s:List UInt8):Bool:=mayI L s 4
theorem mayI_false {L s:List UInt8} {i:Nat} (hi:i<4) (h:hasL L (placeL (8*L.length) s i)=false):mayL L s=false:=by
 unfold mayL mayI
 rw [List.all_eq_false]
 exact ⟨i,by simpa using hi,by simp [h]⟩
def roomL (n:Nat):Nat:=(min (max (10*n) 64) 1048576+7) / 8
theorem roomL_le (n:Nat):8≤roomL n∧roomL n≤131072:=by unfold roomL;omega
def newL (n:Nat):List UInt8:=List.replicate (roomL n) 0
theorem newL_len (n:Nat):(newL n).length=roomL n:=by simp [newL]
end Go.Proofs.YtdijhifdjbnkfaaGreat.BM
