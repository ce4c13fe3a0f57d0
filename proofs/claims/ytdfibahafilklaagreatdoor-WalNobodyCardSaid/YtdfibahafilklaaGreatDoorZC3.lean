
set_option maxRecDepth 100000
set_option maxHeartbeats 8000000
set_option linter.unusedVariables false
set_option linter.unusedSimpArgs false
namespace Go.Proofs.YtdfibahafilklaaGreatDoor.VM
def bytesF:Nat→Nat→List UInt8
 | 0,n=>[UInt8.ofNat n]
 | k+1,n=>if n<128 then [UInt8.ofNat n] else UInt8.ofNat (n%128+128)::bytesF k (n / 128)
def bytesL (n:Nat):List UInt8:=bytesF 9 n
theorem bytesF_more:∀ (k n:Nat),n<128^(k+1)→bytesF (k+1) n=bytesF k n
 | 0,n,h=>by
   have h2:n<128:=by simpa using h
   simp [bytesF,h2]
 | k+1,n,h=>by
   have e1:bytesF (k+2) n=if n<128 then [UInt8.ofNat n] else UInt8.ofNat (n%128+128)::bytesF (k+1) (n / 128):=rfl
   have e2:bytesF (k+1) n=if n<128 then [UInt8.ofNat n] else UInt8.ofNat (n%128+128)::bytesF k (n / 128):=rfl
   rw [e1,e2,bytesF_more k (n / 128) (by rw [Nat.div_lt_iff_lt_mul (by omega)];rw [Nat.pow_succ] at h;exact h)]
theorem bytesL_small {n:Nat} (h:n<128):bytesL n=[UInt8.ofNat n]:=by
 unfold bytesL
 rw [show (9:Nat)=8+1 from rfl,bytesF,if_pos h]
theorem bytesL_big {n:Nat} (h:¬ n<128) (hn:n<18446744073709551616):bytesL n=UInt8.ofNat (n%128+128)::bytesL (n / 128):=by
 have e:bytesF 9 (n / 128)=bytesF 8 (n / 128):=bytesF_more 8 _ (by have:(128:Nat)^(8+1)=9223372036854775808:=by decide
                                                                   omega)
 unfold bytesL
 rw [e,show (9:Nat)=8+1 from rfl,bytesF,if_neg h]
theorem bytesF_length:∀ (k n:Nat),1≤(bytesF k n).length∧(bytesF k n).length≤k+1
 | 0,n=>by simp [bytesF]
 | k+1,n=>by
   unfold bytesF
   have:=bytesF_length k (n / 128)
   split<;>simp<;>omega
theorem bytesL_length (n:Nat):1≤(bytesL n).length∧(bytesL n).length≤10:=bytesF_length 9 n
theorem rec128 {P:Nat→Prop} (h0:∀ n,n<128→P n) (h1:∀ n,¬ n<128→P (n / 128)→P n) (n:Nat):P n:=by
 induction n using Nat.strongRecOn with
 | ind n ih =>
   by_cases h:n<128
   ·exact h0 n h
   ·exact h1 n h (ih _ (by omega))
def getF:Nat→Nat→List UInt8→Nat×Nat×Int
 | _,_,[]=>(0,0,6)
 | i,n,c::l=>if (i=9∧1<c.toNat)∨(0<i∧c.toNat=0) then (0,0,20) else if c.toNat<128 then (n+c.toNat%128*2^(7*i),i+1,0) else getF (i+1) (n+c.toNat%128*2^(7*i)) l
def getL (l:List UInt8):Nat×Nat×Int:=getF 0 0 l
theorem getF_nil (i n:Nat):getF i n []=(0,0,6):=by rw [getF]
theorem getF_bad {i n:Nat} {c:UInt8} {l:List UInt8} (h:(i=9∧1<c.toNat)∨(0<i∧c.toNat=0)):getF i n (c::l)=(0,0,20):=by rw [getF,if_pos h]
theorem getF_end {i n:Nat} {c:UInt8} {l:List UInt8} (h:¬ ((i=9∧1<c.toNat)∨(0<i∧c.toNat=0))) (h2:c.toNat<128):getF i n (c::l)=(n+c.toNat%128*2^(7*i),i+1,0):=by rw [getF,if_neg h,if_pos h2]
theorem getF_more {i n:Nat} {c:UInt8} {l:List UInt8} (h:¬ ((i=9∧1<c.toNat)∨(0<i∧c.toNat=0))) (h2:¬ c.toNat<128):getF i n (c::l)=getF (i+1) (n+c.toNat%128*2^(7*i)) l:=by rw [getF,if_neg h,if_neg h2]
theorem pow7 (i:Nat):2^(7*(i+1))=128*2^(7*i):=by
 rw [Nat.mul_add,Nat.pow_add];omega
theorem gather_lt {i n:Nat} (hn:n<2^(7*i)) (c:Nat):n+c%128*2^(7*i)<2^(7*(i+1)):=by
 rw [pow7]
 have h1:c%128≤127:=by omega
 have h2:=Nat.mul_le_mul_right (2^(7*i)) h1
 omega
theorem pow_le {i j:Nat} (h:i≤j):2^(7*i)≤2^(7*j):=Nat.pow_le_pow_right (by omega) (by omega)
theorem pow9:2^(7*9)=9223372036854775808:=by decide
theorem gather_fits {i n:Nat} (hn:n<2^(7*i)) (hi:i≤9) {c:UInt8} (h:¬ ((i=9∧1<c.toNat)∨(0<i∧c.toNat=0))):n+c.toNat%128*2^(7*i)<18446744073709551616:=by
 by_cases h9:i=9
 ·subst h9
  have hc:c.toNat=1:=by omega
  rw [pow9] at hn ⊢
  rw [hc]
  omega
 ·have h1:=gather_lt hn c.toNat
  have h2:2^(7*(i+1))≤2^(7*9):=pow_le (by omega)
  rw [pow9] at h2
  omega
theorem gather_next {i:Nat} (hi:i≤9) {c:UInt8} (h:¬ ((i=9∧1<c.toNat)∨(0<i∧c.toNat=0))) (h2:¬ c.toNat<128):i+1≤9:=by
 by_cases h9:i=9<;>omega
theorem getF_bounds:∀ (l:List UInt8) (i n:Nat),i≤9→n<2^(7*i) →
  (getF i n l).1<18446744073709551616∧(getF i n l).2.1≤i+l.length∧((getF i n l).2.2=0∨(getF i n l=(0,0,6)∨getF i n l=(0,0,20)))∧((getF i n l).2.2=0→1≤(getF i n l).2.1)
 | [],i,n,_,_=>by rw [getF_nil];simp
 | c::l,i,n,hi,hn=>by
   by_cases h:(i=9∧1<c.toNat)∨(0<i∧c.toNat=0)
   ·rw [getF_bad h];simp
   ·by_cases h2:c.toNat<128
    ·rw [getF_end h h2]
     refine ⟨gather_fits hn hi h,by simp,.inl rfl,fun _=>by simp⟩
    ·rw [getF_more h h2]
     have:=getF_bounds l (i+1) _ (gather_next hi h h2) (gather_lt hn c.toNat)
     rw [List.length_cons]
     exact ⟨this.1,by omega,this.2.2.1,this.2.2.2⟩
theorem getL_bounds (l:List UInt8):(getL l).1<18446744073709551616∧(getL l).2.1≤l.length∧((getL l).2.2=0∨(getL l=(0,0,6)∨getL l=(0,0,20)))∧((getL l).2.2=0→1≤(getL l).2.1):=by
 have:=getF_bounds l 0 0 (by omega) (by omega)
 rw [Nat.zero_add] at this
 exact this
theorem toNat_small {n:Nat} (h:n<256):(UInt8.ofNat n).toNat=n:=by simp;omega
theorem getF_put (n:Nat):∀ (i acc:Nat) (l:List UInt8),i≤9→acc+n*2^(7*i)<18446744073709551616→(i=0∨0<n) →
  getF i acc (bytesL n++l)=(acc+n*2^(7*i),i+(bytesL n).length,0):=by
 refine rec128 (P:=fun n=>∀ (i acc:Nat) (l:List UInt8),i≤9→acc+n*2^(7*i)<18446744073709551616→(i=0∨0<n) →
  getF i acc (bytesL n++l)=(acc+n*2^(7*i),i+(bytesL n).length,0)) ?_ ?_ n
 ·intro n h i acc l hi hf h0
  have hc:(UInt8.ofNat n).toNat=n:=toNat_small (by omega)
  rw [bytesL_small h,List.singleton_append,getF_end]
  ·rw [hc,Nat.mod_eq_of_lt h];rfl
  ·rw [hc]
   rintro (⟨h9,h1⟩ | ⟨h9,h1⟩)
   ·subst h9
    rw [pow9] at hf
    omega
   ·omega
  ·omega
 ·intro n h ih i acc l hi hf h0
  have hbig:n<18446744073709551616:=by
   have:1≤2^(7*i):=Nat.one_le_two_pow
   have:=Nat.mul_le_mul_left n this
   omega
  have hc:(UInt8.ofNat (n%128+128)).toNat=n%128+128:=toNat_small (by omega)
  have hi8:i+1≤9:=by
   by_cases h9:i=9
   ·subst h9
    rw [pow9] at hf
    omega
   ·omega
  have e1:n*2^(7*i)=n%128*2^(7*i)+n / 128*(128*2^(7*i)):=by
   have h2:n=n%128+n / 128*128:=by omega
   rw [← Nat.mul_assoc,← Nat.add_mul,← h2]
  have hn:acc+n%128*2^(7*i)+n / 128*2^(7*(i+1))=acc+n*2^(7*i):=by
   rw [pow7,e1,Nat.add_assoc]
  rw [bytesL_big h hbig,List.cons_append,getF_more]
  ·rw [hc,show (n%128+128)%128=n%128 by omega,ih (i+1) _ l hi8 (by rw [hn];exact hf) (.inr (by omega)),hn,List.length_cons]
   simp only [Prod.mk.injEq,true_and,and_true]
   omega
  ·rw [hc];omega
  ·rw [hc];omega
theorem getL_put (n:Nat) (hn:n<18446744073709551616) (l:List UInt8):getL (bytesL n++l)=(n,(bytesL n).length,0):=by
 have:=getF_put n 0 0 l (by omega) (by omega) (.inl rfl)
 rw [Nat.zero_add,Nat.zero_add,Nat.mul_zero,Nat.pow_zero,Nat.mul_one] at this
 exact this
theorem getF_part (n:Nat):∀ (i acc j:Nat),i≤9→acc+n*2^(7*i)<18446744073709551616→(i=0∨0<n)→j<(bytesL n).length→getF i acc ((bytesL n).take j)=(0,0,6):=by
 refine rec128 (P:=fun n=>∀ (i acc j:Nat),i≤9→acc+n*2^(7*i)<18446744073709551616→(i=0∨0<n)→j<(bytesL n).length→getF i acc ((bytesL n).take j)=(0,0,6)) ?_ ?_ n
 ·intro n h i acc j hi hf h0 hj
  rw [bytesL_small h] at hj ⊢
  have:j=0:=by simpa using hj
  subst this
  rw [List.take_zero,getF_nil]
 ·intro n h ih i acc j hi hf h0 hj
  have hbig:n<18446744073709551616:=by
   have:1≤2^(7*i):=Nat.one_le_two_pow
   have:=Nat.mul_le_mul_left n this
   omega
  have hc:(UInt8.ofNat (n%128+128)).toNat=n%128+128:=toNat_small (by omega)
  have hi8:i+1≤9:=by
   by_cases h9:i=9
   ·subst h9
    rw [pow9] at hf
    omega
   ·omega
  have e1:n*2^(7*i)=n%128*2^(7*i)+n / 128*(128*2^(7*i)):=by
   have h2:n=n%128+n / 128*128:=by omega
   rw [← Nat.mul_assoc,← Nat.add_mul,← h2]
  have hn:acc+n%128*2^(7*i)+n / 128*2^(7*(i+1))=acc+n*2^(7*i):=by
   rw [pow7,e1,Nat.add_assoc]
  rw [bytesL_big h hbig] at hj ⊢
  rw [List.length_cons] at hj
  cases j with
  | zero=>rw [List.take_zero,getF_nil]
  | succ j =>
    rw [List.take_succ_cons,getF_more]
    ·rw [hc,show (n%128+128)%128=n%128 by omega]
     exact ih (i+1) _ j hi8 (by rw [hn];exact hf) (.inr (by omega)) (by omega)
    ·rw [hc];omega
    ·rw [hc];omega
theorem getL_part (n j:Nat) (hn:n<18446744073709551616) (hj:j<(bytesL n).length):getL ((bytesL n).take j)=(0,0,6) :=
 getF_part n 0 0 j (by omega) (by omega) (.inl rfl) hj
theorem getF_back:∀ (l:List UInt8) (i acc n k:Nat),i≤9→acc<2^(7*i)→getF i acc l=(n,k,0)→∃ m,n=acc+m*2^(7*i)∧i<k∧k≤i+l.length∧bytesL m=l.take (k - i)∧(0<i→0<m)
 | [],i,acc,n,k,_,_,h=>by rw [getF_nil] at h;simp at h
 | c::l,i,acc,n,k,hi,ha,h=>by
   by_cases hb:(i=9∧1<c.toNat)∨(0<i∧c.toNat=0)
   ·rw [getF_bad hb] at h;simp at h
   ·by_cases h2:c.toNat<128
    ·rw [getF_end hb h2] at h
     simp only [Prod.mk.injEq,and_true] at h
     obtain ⟨rfl,rfl⟩:=h
     refine ⟨c.toNat,by rw [Nat.mod_eq_of_lt h2],by omega,by rw [List.length_cons];omega,?_,by omega⟩
     rw [bytesL_small h2,show i+1 - i=1 by omega,List.take_succ_cons,List.take_zero]
     simp
    ·rw [getF_more hb h2] at h
     have hi2:=gather_next hi hb h2
     obtain ⟨m,hm,hk,hkl,hbm,h0⟩:=getF_back l (i+1) _ n k hi2 (gather_lt ha c.toNat) h
     have hc:=c.toNat_lt
     have hfit:=(getF_bounds l (i+1) _ hi2 (gather_lt ha c.toNat)).1
     rw [h] at hfit
     have hmp:=h0 (by omega)
     have hN:c.toNat%128+128*m<18446744073709551616:=by
      have h1:1≤2^(7*i):=Nat.one_le_two_pow
      have h3:=Nat.mul_le_mul_left (c.toNat%128) h1
      have h4:=Nat.mul_le_mul_left (m*128) h1
      rw [pow7,← Nat.mul_assoc] at hm
      have hfit':n<18446744073709551616:=hfit
      omega
     refine ⟨c.toNat%128+128*m,?_,by omega,by rw [List.length_cons];omega,?_,by omega⟩
     ·rw [hm,pow7,Nat.add_mul,Nat.add_assoc,Nat.mul_comm 128 m,Nat.mul_assoc]
     ·have hnb:¬ c.toNat%128+128*m<128:=by omega
      rw [bytesL_big hnb hN,show (c.toNat%128+128*m) / 128=m by omega,hbm,show k - i=(k - (i+1))+1 by omega,List.take_succ_cons,show (c.toNat%128+128*m)%128+128=c.toNat by omega]
      simp
theorem getL_back {l:List UInt8} {n k:Nat} (h:getL l=(n,k,0)):bytesL n++l.drop k=l:=by
 obtain ⟨m,hm,_,_,hb,_⟩:=getF_back l 0 0 n k (by omega) (by omega) h
 rw [Nat.zero_add,Nat.mul_zero,Nat.pow_zero,Nat.mul_one] at hm
 rw [hm,hb,Nat.sub_zero,List.take_append_drop]
def zig (n:Int):Nat:=if 0≤n then (2*n).toNat else (-2*n - 1).toNat
def zag (u:Nat):Int:=if u%2=0 then ((u / 2:Nat):Int) else -1 - ((u / 2:Nat):Int)
theorem zag_zig (n:Int):zag (zig n)=n:=by unfold zag zig;split<;>split<;>omega
theorem zig_lt {n:Int} (h0 : -9223372036854775808≤n) (h1:n≤9223372036854775807):zig n<18446744073709551616:=by unfold zig;split<;>omega
theorem zag_bd {u:Nat} (h:u<18446744073709551616) : -9223372036854775808≤zag u∧zag u≤9223372036854775807:=by unfold zag;split<;>omega
def intL (n:Int):List UInt8:=bytesL (zig n)
def getI (l:List UInt8):Int×Nat×Int:=(zag (getL l).1,(getL l).2.1,(getL l).2.2)
theorem getI_bounds (l:List UInt8):(-9223372036854775808≤(getI l).1∧(getI l).1≤9223372036854775807)∧(getI l).2.1≤l.length∧((getI l).2.2=0∨(getI l=(0,0,6)∨getI l=(0,0,20)))∧((getI l).2.2=0→1≤(getI l).2.1):=by
 have h:=getL_bounds l
 refine ⟨zag_bd h.1,h.2.1,?_,h.2.2.2⟩
 rcases h.2.2.1 with h0 | h0 | h0
 ·exact .inl h0
 ·refine .inr (.inl ?_);unfold getI;rw [h0];rfl
 ·refine .inr (.inr ?_);unfold getI;rw [h0];rfl
theorem getI_put (n:Int) (h0 : -9223372036854775808≤n) (h1:n≤9223372036854775807) (l:List UInt8):getI (intL n++l)=(n,(intL n).length,0):=by
 unfold getI intL
 rw [getL_put _ (zig_lt h0 h1),zag_zig]
def textL (s:List UInt8):List UInt8:=bytesL s.length++s
def getT (l:List UInt8) (most:Int):List UInt8×Nat×Int :=
 if (getL l).2.2≠0 then ([],0,(getL l).2.2)
 else if max 0 most<((getL l).1:Int) then ([],0,2)
 else if l.length - (getL l).2.1<(getL l).1 then ([],0,6)
 else ((l.drop (getL l).2.1).take (getL l).1,(getL l).2.1+(getL l).1,0)
theorem getT_put (s:List UInt8) (hs:s.length<18446744073709551616) (most:Int) (hm:(s.length:Int)≤most) (l:List UInt8):getT (textL s++l) most=(s,(textL s).length,0):=by
 unfold getT textL
 rw [List.append_assoc,getL_put _ hs]
 have e1:¬ ((0:Int)≠0):=by simp
 have e2:¬ max 0 most<(s.length:Int):=by omega
 have e3:¬ (bytesL s.length++(s++l)).length - (bytesL s.length).length<s.length:=by simp
 simp only []
 rw [if_neg e1,if_neg e2,if_neg e3,List.drop_left,List.take_left,List.length_append]
end Go.Proofs.YtdfibahafilklaaGreatDoor.VM
