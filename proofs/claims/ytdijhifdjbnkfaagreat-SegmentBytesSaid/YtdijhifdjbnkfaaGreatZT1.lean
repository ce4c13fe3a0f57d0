
set_option maxRecDepth 100000
set_option maxHeartbeats 0
set_option linter.unusedVariables false
set_option linter.unusedSimpArgs false
namespace Go.Proofs.YtdijhifdjbnkfaaGreat
theorem Xn {α:Type} (a:α):∃x,a=x:=⟨a,rfl⟩
theorem Xt {p:Prop} [Decidable p] (h:p:=by omega):decide p=true:=decide_eq_true h
theorem Xf {p:Prop} [Decidable p] (h:¬p:=by omega):decide p=false:=decide_eq_false h
theorem Xb {α:Type} [BEq α] [LawfulBEq α] {a b:α} (h:a≠b:=by omega):(a==b)=false:=beq_eq_false_iff_ne.2 h
abbrev Xu:=List UInt8
theorem Xa:type_of% @if_neg:=@if_neg
theorem Xc:type_of% @Nat.le_refl:=@Nat.le_refl
theorem Xd:type_of% @List.length_append:=@List.length_append
theorem Xe:type_of% @if_pos:=@if_pos
theorem Xg:type_of% @decide_eq_true_eq:=@decide_eq_true_eq
theorem Xh:type_of% @List.length_cons:=@List.length_cons
theorem Xi:type_of% @List.length_take:=@List.length_take
theorem Xj:type_of% @List.length_drop:=@List.length_drop
theorem Xk:type_of% @decide_eq_false_iff_not:=@decide_eq_false_iff_not
theorem Xl:type_of% @List.append_assoc:=@List.append_assoc
theorem Xm:type_of% @List.length_nil:=@List.length_nil
theorem Xo:type_of% @Array.getElem?_eq_some_iff:=@Array.getElem?_eq_some_iff
theorem Xp:type_of% @congrArg:=@congrArg
theorem Xq:type_of% @List.set_cons_succ:=@List.set_cons_succ
theorem Xr:type_of% @List.setIfInBounds_toArray:=@List.setIfInBounds_toArray
theorem Xs:type_of% @List.set_cons_zero:=@List.set_cons_zero
theorem Xv:type_of% @Option.some.injEq:=@Option.some.injEq
theorem Xw:type_of% @decide_eq_true:=@decide_eq_true
theorem Xx:type_of% @Nat.le_trans:=@Nat.le_trans
theorem Xy:type_of% @Bool.and_eq_true:=@Bool.and_eq_true
theorem Xz:type_of% @List.nil_append:=@List.nil_append
theorem XB:type_of% @decide_eq_false:=@decide_eq_false
theorem XC:type_of% @List.take_length:=@List.take_length
theorem XE:type_of% @List.length_map:=@List.length_map
theorem XF:type_of% @List.map_cons:=@List.map_cons
theorem XG:type_of% @List.take_succ_eq_append_getElem:=@List.take_succ_eq_append_getElem
theorem XH:type_of% @List.getElem_mem:=@List.getElem_mem
theorem XI:type_of% @List.append_nil:=@List.append_nil
theorem XJ:type_of% @List.cons_append:=@List.cons_append
theorem XK:type_of% @Nat.lt_of_lt_of_le:=@Nat.lt_of_lt_of_le
theorem XL:type_of% @Nat.zero_add:=@Nat.zero_add
theorem XM:type_of% @List.take_of_length_le:=@List.take_of_length_le
theorem XN:type_of% @List.map_append:=@List.map_append
theorem XO:type_of% @List.eq_nil_of_length_eq_zero:=@List.eq_nil_of_length_eq_zero
theorem XP:type_of% @Option.some.inj:=@Option.some.inj
theorem XS:type_of% @List.mem_cons:=@List.mem_cons
theorem XT:type_of% @Int.toNat_natCast:=@Int.toNat_natCast
theorem XU:type_of% @Nat.zero_le:=@Nat.zero_le
theorem XV:type_of% @List.map_nil:=@List.map_nil
theorem XW:type_of% @List.getElem?_eq_getElem:=@List.getElem?_eq_getElem
theorem XX:type_of% @List.getElem?_cons_zero:=@List.getElem?_cons_zero
theorem XY:type_of% @List.mem_map:=@List.mem_map
theorem XZ:type_of% @List.getElem?_toArray:=@List.getElem?_toArray
theorem X4:type_of% @List.getElem?_cons_succ:=@List.getElem?_cons_succ
theorem X6:type_of% @List.take_append_drop:=@List.take_append_drop
theorem X7:type_of% @Prod.mk.inj:=@Prod.mk.inj
theorem X8:type_of% @Prod.mk.injEq:=@Prod.mk.injEq
theorem X9:type_of% @List.drop_eq_getElem_cons:=@List.drop_eq_getElem_cons
theorem Xaa:type_of% @bne_iff_ne:=@bne_iff_ne
theorem Xab:type_of% @beq_eq_false_iff_ne:=@beq_eq_false_iff_ne
theorem Xac:type_of% @List.length_pos_iff:=@List.length_pos_iff
theorem Xad:type_of% @Bool.false_and:=@Bool.false_and
theorem Xae:type_of% @List.drop_length:=@List.drop_length
theorem Xaf:type_of% @List.length_singleton:=@List.length_singleton
theorem Xag:type_of% @Bool.true_and:=@Bool.true_and
theorem Xah:type_of% @Nat.add_zero:=@Nat.add_zero
theorem Xai:type_of% @Option.map_some:=@Option.map_some
theorem Xaj:type_of% @List.flatten_cons:=@List.flatten_cons
theorem Xak:type_of% @List.mem_append:=@List.mem_append
theorem Xal:type_of% @List.getElem?_eq_some_iff:=@List.getElem?_eq_some_iff
theorem Xam:type_of% @Nat.le_of_lt:=@Nat.le_of_lt
theorem Xan:type_of% @beq_iff_eq:=@beq_iff_eq
theorem Xao:type_of% @Nat.min_eq_left:=@Nat.min_eq_left
theorem Xap:type_of% @List.drop_zero:=@List.drop_zero
theorem Xaq:type_of% @List.mem_of_mem_take:=@List.mem_of_mem_take
theorem Xar:type_of% @Classical.byContradiction:=@Classical.byContradiction
theorem Xas:type_of% @Nat.sub_self:=@Nat.sub_self
theorem Xat:type_of% @List.size_toArray:=@List.size_toArray
theorem Xau:type_of% @List.drop_left:=@List.drop_left
theorem Xav:type_of% @Nat.add_assoc:=@Nat.add_assoc
theorem Xaw:type_of% @Array.getElem?_eq_none:=@Array.getElem?_eq_none
theorem Xax:type_of% @List.pairwise_cons:=@List.pairwise_cons
theorem Xay:type_of% @List.length_set:=@List.length_set
theorem Xaz:type_of% @List.take_succ_cons:=@List.take_succ_cons
theorem XaA:type_of% @List.getElem_map:=@List.getElem_map
theorem XaB:type_of% @Array.replicate_succ:=@Array.replicate_succ
theorem XaC:type_of% @Array.replicate_zero:=@Array.replicate_zero
theorem XaD:type_of% @List.push_toArray:=@List.push_toArray
theorem XaE:type_of% @List.append_toArray:=@List.append_toArray
theorem XaF:type_of% @List.mem_singleton:=@List.mem_singleton
theorem XaG:type_of% @Nat.mul_one:=@Nat.mul_one
theorem XaH:type_of% @List.drop_of_length_le:=@List.drop_of_length_le
theorem XaI:type_of% @Nat.succ_lt_succ:=@Nat.succ_lt_succ
theorem XaJ:type_of% @List.take_zero:=@List.take_zero
theorem XaK:type_of% @Int.eq_ofNat_of_zero_le:=@Int.eq_ofNat_of_zero_le
theorem XaL:type_of% @Prod.ext:=@Prod.ext
theorem XaM:type_of% @List.drop_drop:=@List.drop_drop
theorem XaN:type_of% @Nat.mod_lt:=@Nat.mod_lt
theorem XaO:type_of% @List.flatten_append:=@List.flatten_append
theorem XaP:type_of% @List.getD_eq_getElem?_getD:=@List.getD_eq_getElem?_getD
theorem XaQ:type_of% @List.flatMap_cons:=@List.flatMap_cons
theorem XaR:type_of% @List.flatMap_append:=@List.flatMap_append
theorem XaS:type_of% @Nat.le_of_not_lt:=@Nat.le_of_not_lt
theorem XaT:type_of% @UInt8.toNat_inj:=@UInt8.toNat_inj
theorem XaU:type_of% @List.length_take_le':=@List.length_take_le'
theorem XaV:type_of% @List.range_succ:=@List.range_succ
theorem XaW:type_of% @List.drop_succ_cons:=@List.drop_succ_cons
theorem XaX:type_of% @List.mem_of_mem_drop:=@List.mem_of_mem_drop
theorem XaY:type_of% @Nat.mul_zero:=@Nat.mul_zero
theorem XaZ:type_of% @List.foldl_append:=@List.foldl_append
theorem Xa0:type_of% @List.getElem_drop:=@List.getElem_drop
theorem Xa1:type_of% @List.getElem?_map:=@List.getElem?_map
theorem Xa2:type_of% @List.getElem_set_ne:=@List.getElem_set_ne
theorem Xa3:type_of% @Nat.min_eq_right:=@Nat.min_eq_right
theorem Xa4:type_of% @Bool.and_false:=@Bool.and_false
theorem Xa5:type_of% @List.mem_cons_of_mem:=@List.mem_cons_of_mem
theorem Xa6:type_of% @List.cons.injEq:=@List.cons.injEq
theorem Xa7:type_of% @Int.le_refl:=@Int.le_refl
theorem Xa8:type_of% @List.singleton_append:=@List.singleton_append
theorem Xa9:type_of% @List.getElem_append_left:=@List.getElem_append_left
theorem Xba:type_of% @List.getElem_append_right:=@List.getElem_append_right
theorem Xbb:type_of% @List.getElem_take:=@List.getElem_take
theorem Xbc:type_of% @List.getElem_cons_zero:=@List.getElem_cons_zero
theorem Xbd:type_of% @List.getElem?_drop:=@List.getElem?_drop
theorem Xbe:type_of% @List.map_eq_nil_iff:=@List.map_eq_nil_iff
theorem Xbf:type_of% @Nat.xor_lt_two_pow:=@Nat.xor_lt_two_pow
theorem Xbg:type_of% @Nat.shiftRight_eq_div_pow:=@Nat.shiftRight_eq_div_pow
theorem Xbh:type_of% @Bool.and_assoc:=@Bool.and_assoc
theorem Xbi:type_of% @List.not_mem_nil:=@List.not_mem_nil
theorem Xbj:type_of% @Nat.lt_of_le_of_lt:=@Nat.lt_of_le_of_lt
theorem Xbk:type_of% @List.take_left:=@List.take_left
theorem Xbl:type_of% @Nat.lt_irrefl:=@Nat.lt_irrefl
theorem Xbm:type_of% @Bool.false_ne_true:=@Bool.false_ne_true
theorem Xbn:type_of% @List.getElem_of_mem:=@List.getElem_of_mem
theorem Xbo:type_of% @List.flatten_singleton:=@List.flatten_singleton
theorem Xbp:type_of% @List.getElem_set_self:=@List.getElem_set_self
theorem Xbq:type_of% @Nat.pow_le_pow_right:=@Nat.pow_le_pow_right
theorem Xbr:type_of% @Option.isSome_iff_exists:=@Option.isSome_iff_exists
theorem Xbs:type_of% @List.map_singleton:=@List.map_singleton
theorem Xbt:type_of% @List.getElem?_append_right:=@List.getElem?_append_right
theorem Xbu:type_of% @List.take_append_of_le_length:=@List.take_append_of_le_length
theorem Xbv:type_of% @List.getElem_cons_succ:=@List.getElem_cons_succ
namespace VM
variable {i:Nat} {c:UInt8} {l:Xu}
def ZK:Nat->Nat->Xu
 | 0,n=>[UInt8.ofNat n]
 | k+1,n=>if n<128 then [UInt8.ofNat n] else UInt8.ofNat (n%128+128)::ZK k (n / 128)
def Zb (n:Nat):Xu:=ZK 9 n
theorem Zkt:∀(k n:Nat),n<128^(k+1)->ZK (k+1) n=ZK k n
 | 0,n,h=>by
   have d:n<128:=by simpa using h
   simp [ZK,d]
 | k+1,n,h=>by
   have a:ZK (k+2) n=if n<128 then [UInt8.ofNat n] else UInt8.ofNat (n%128+128)::ZK (k+1) (n / 128):=rfl
   have b:ZK (k+1) n=if n<128 then [UInt8.ofNat n] else UInt8.ofNat (n%128+128)::ZK k (n / 128):=rfl
   rw [a,b,Zkt k (n / 128) (by rw [Nat.div_lt_iff_lt_mul (by omega)];rw [Nat.pow_succ] at h;exact h)]
theorem Zda {n:Nat} (h:n<128):Zb n=[UInt8.ofNat n]:=by
 unfold Zb;rw [show (9:Nat)=8+1 from rfl,ZK,Xe h]
theorem Zdt {n:Nat} (h:¬n<128) (hn:n<18446744073709551616):Zb n=UInt8.ofNat (n%128+128)::Zb (n / 128):=by
 have e:ZK 9 (n / 128)=ZK 8 (n / 128):=Zkt 8 _ (by have:(128:Nat)^(8+1)=9223372036854775808:=by decide
                                                   omega)
 unfold Zb;rw [e,show (9:Nat)=8+1 from rfl,ZK,Xa h]
theorem Zh2:∀(k n:Nat),1<=(ZK k n).length/\(ZK k n).length<=k+1
 | 0,n=>by simp [ZK]
 | k+1,n=>by
   unfold ZK;have:=Zh2 k (n / 128)
   split<;>simp<;>omega
theorem Zc (n:Nat):1<=(Zb n).length/\(Zb n).length<=10:=Zh2 9 n
theorem ZsD {P:Nat->Prop} (b:∀n,n<128->P n) (a:∀n,¬n<128->P (n / 128)->P n) (n:Nat):P n:=by
 induction n using Nat.strongRecOn with
 | ind n ih =>
   by_cases h:n<128
   ·exact b n h
   ·exact a n h (ih _ (by omega))
def Zdz:Nat->Nat->Xu->Nat×Nat×Int
 | _,_,[]=>(0,0,6)
 | i,n,c::l=>if (i=9/\1<c.toNat)\/(0<i/\c.toNat=0) then (0,0,20) else if c.toNat<128 then (n+c.toNat%128*2^(7*i),i+1,0) else Zdz (i+1) (n+c.toNat%128*2^(7*i)) l
def Zk (l:Xu):Nat×Nat×Int:=Zdz 0 0 l
theorem ZfP (i n:Nat):Zdz i n []=(0,0,6):=by rw [Zdz]
theorem Zg5 {n:Nat} (h:(i=9/\1<c.toNat)\/(0<i/\c.toNat=0)):Zdz i n (c::l)=(0,0,20):=by rw [Zdz,Xe h]
theorem ZfO {n:Nat} (h:¬((i=9/\1<c.toNat)\/(0<i/\c.toNat=0))) (a:c.toNat<128):Zdz i n (c::l)=(n+c.toNat%128*2^(7*i),i+1,0):=by rw [Zdz,Xa h,Xe a]
theorem Zew {n:Nat} (h:¬((i=9/\1<c.toNat)\/(0<i/\c.toNat=0))) (a:¬c.toNat<128):Zdz i n (c::l)=Zdz (i+1) (n+c.toNat%128*2^(7*i)) l:=by rw [Zdz,Xa h,Xa a]
theorem ZBa (i:Nat):2^(7*(i+1))=128*2^(7*i):=by
 rw [Nat.mul_add,Nat.pow_add];omega
theorem Zdy {n:Nat} (hn:n<2^(7*i)) (c:Nat):n+c%128*2^(7*i)<2^(7*(i+1)):=by
 rw [ZBa];have a:c%128<=127:=by omega
 have h2:=Nat.mul_le_mul_right (2^(7*i)) a;omega
theorem ZCu {j:Nat} (h:i<=j):2^(7*i)<=2^(7*j):=Xbq (by omega) (by omega)
theorem ZBb:2^(7*9)=9223372036854775808:=by decide
theorem Zfa {n:Nat} (a:n<2^(7*i)) (hi:i<=9) (h:¬((i=9/\1<c.toNat)\/(0<i/\c.toNat=0))):n+c.toNat%128*2^(7*i)<18446744073709551616:=by
 by_cases d:i=9
 ·subst d;have b:c.toNat=1:=by omega
  rw [ZBb] at a ⊢;rw [b];omega
 ·have h1:=Zdy a c.toNat;have e:2^(7*(i+1))<=2^(7*9):=ZCu (by omega);rw [ZBb] at e;omega
theorem ZdV (hi:i<=9) (h:¬((i=9/\1<c.toNat)\/(0<i/\c.toNat=0))) (h2:¬c.toNat<128):i+1<=9:=by
 by_cases h9:i=9<;>omega
theorem Zg6:∀(l:Xu) (i n:Nat),i<=9->n<2^(7*i) ->
  (Zdz i n l).1<18446744073709551616/\(Zdz i n l).2.1<=i+l.length/\((Zdz i n l).2.2=0\/(Zdz i n l=(0,0,6)\/Zdz i n l=(0,0,20)))/\((Zdz i n l).2.2=0->1<=(Zdz i n l).2.1)
 | [],i,n,_,_=>by rw [ZfP];simp
 | c::l,i,n,hi,hn=>by
   by_cases h:(i=9/\1<c.toNat)\/(0<i/\c.toNat=0)
   ·rw [Zg5 h];simp
   ·by_cases a:c.toNat<128
    ·rw [ZfO h a];refine ⟨Zfa hn hi h,by simp,.inl rfl,fun _=>by simp⟩
    ·rw [Zew h a];have:=Zg6 l (i+1) _ (ZdV hi h a) (Zdy hn c.toNat);rw [Xh];exact ⟨this.1,by omega,this.2.2.1,this.2.2.2⟩
theorem ZaN (l:Xu):(Zk l).1<18446744073709551616/\(Zk l).2.1<=l.length/\((Zk l).2.2=0\/(Zk l=(0,0,6)\/Zk l=(0,0,20)))/\((Zk l).2.2=0->1<=(Zk l).2.1):=by
 have:=Zg6 l 0 0 (by omega) (by omega);rw [XL] at this;exact this
theorem Zhx {n:Nat} (h:n<256):(UInt8.ofNat n).toNat=n:=by simp;omega
theorem ZxC (n:Nat):∀(i acc:Nat) (l:Xu),i<=9->acc+n*2^(7*i)<18446744073709551616->(i=0\/0<n) ->
  Zdz i acc (Zb n++l)=(acc+n*2^(7*i),i+(Zb n).length,0):=by
 refine ZsD (P:=fun n=>∀(i acc:Nat) (l:Xu),i<=9->acc+n*2^(7*i)<18446744073709551616->(i=0\/0<n) ->
  Zdz i acc (Zb n++l)=(acc+n*2^(7*i),i+(Zb n).length,0)) ?_ ?_ n
 ·intro n h i acc l hi e k;have a:(UInt8.ofNat n).toNat=n:=Zhx (by omega);rw [Zda h,Xa8,ZfO]
  ·rw [a,Nat.mod_eq_of_lt h];rfl
  ·rw [a];rintro (⟨d,m⟩|⟨d,m⟩)
   ·subst d;rw [ZBb] at e;omega
   ·omega
  ·omega
 ·intro n h ih i acc l hi e k
  have b:n<18446744073709551616:=by
   have:1<=2^(7*i):=Nat.one_le_two_pow;have:=Nat.mul_le_mul_left n this;omega
  have a:(UInt8.ofNat (n%128+128)).toNat=n%128+128:=Zhx (by omega)
  have f:i+1<=9:=by
   by_cases d:i=9
   ·subst d;rw [ZBb] at e;omega
   ·omega
  have j:n*2^(7*i)=n%128*2^(7*i)+n / 128*(128*2^(7*i)):=by
   have o:n=n%128+n / 128*128:=by omega
   rw [<- Nat.mul_assoc,<- Nat.add_mul,<- o]
  have g:acc+n%128*2^(7*i)+n / 128*2^(7*(i+1))=acc+n*2^(7*i):=by
   rw [ZBa,j,Xav]
  rw [Zdt h b,XJ,Zew]
  ·rw [a,show (n%128+128)%128=n%128 by omega,ih (i+1) _ l f (by rw [g];exact e) (.inr (by omega)),g,Xh];simp only [X8,true_and,and_true];omega
  ·rw [a];omega
  ·rw [a];omega
theorem ZdW (n:Nat) (hn:n<18446744073709551616) (l:Xu):Zk (Zb n++l)=(n,(Zb n).length,0):=by
 have:=ZxC n 0 0 l (by omega) (by omega) (.inl rfl);rw [XL,XL,XaY,Nat.pow_zero,XaG] at this;exact this
theorem Zn6:∀(l:Xu) (i acc n k:Nat),i<=9->acc<2^(7*i)->Zdz i acc l=(n,k,0)->∃m,n=acc+m*2^(7*i)/\i<k/\k<=i+l.length/\Zb m=l.take (k - i)/\(0<i->0<m)
 | [],i,acc,n,k,_,_,h=>by rw [ZfP] at h;simp at h
 | c::l,i,acc,n,k,hi,ha,h=>by
   by_cases e:(i=9/\1<c.toNat)\/(0<i/\c.toNat=0)
   ·rw [Zg5 e] at h;simp at h
   ·by_cases b:c.toNat<128
    ·rw [ZfO e b] at h;simp only [X8,and_true] at h;obtain ⟨rfl,rfl⟩:=h;refine ⟨c.toNat,by rw [Nat.mod_eq_of_lt b],by omega,by rw [Xh];omega,?_,by omega⟩;rw [Zda b,show i+1 - i=1 by omega,Xaz,XaJ];simp
    ·rw [Zew e b] at h;have d:=ZdV hi e b;obtain ⟨m,o,hk,r,g,q⟩:=Zn6 l (i+1) _ n k d (Zdy ha c.toNat) h;have hc:=c.toNat_lt;have a:=(Zg6 l (i+1) _ d (Zdy ha c.toNat)).1;rw [h] at a;have t:=q (by omega)
     have s:c.toNat%128+128*m<18446744073709551616:=by
      have p:1<=2^(7*i):=Nat.one_le_two_pow;have h3:=Nat.mul_le_mul_left (c.toNat%128) p;have h4:=Nat.mul_le_mul_left (m*128) p;rw [ZBa,<- Nat.mul_assoc] at o;have f:n<18446744073709551616:=a;omega
     refine ⟨c.toNat%128+128*m,?_,by omega,by rw [Xh];omega,?_,by omega⟩
     ·rw [o,ZBa,Nat.add_mul,Xav,Nat.mul_comm 128 m,Nat.mul_assoc]
     ·have j:¬c.toNat%128+128*m<128:=by omega
      rw [Zdt j s,show (c.toNat%128+128*m) / 128=m by omega,g,show k - i=(k - (i+1))+1 by omega,Xaz,show (c.toNat%128+128*m)%128+128=c.toNat by omega];simp
theorem Zc3 {n k:Nat} (h:Zk l=(n,k,0)):Zb n++l.drop k=l:=by
 obtain ⟨m,a,_,_,b,_⟩:=Zn6 l 0 0 n k (by omega) (by omega) h;rw [XL,XaY,Nat.pow_zero,XaG] at a;rw [a,b,Nat.sub_zero,X6]
def zig (n:Int):Nat:=if 0<=n then (2*n).toNat else (-2*n - 1).toNat
def zag (u:Nat):Int:=if u%2=0 then ((u / 2:Nat):Int) else -1 - ((u / 2:Nat):Int)
theorem ZBK (n:Int):zag (zig n)=n:=by unfold zag zig;split<;>split<;>omega
theorem Zne {n:Int} (h0 : -9223372036854775808<=n) (h1:n<=9223372036854775807):zig n<18446744073709551616:=by unfold zig;split<;>omega
theorem ZCG {u:Nat} (h:u<18446744073709551616) : -9223372036854775808<=zag u/\zag u<=9223372036854775807:=by unfold zag;split<;>omega
def ZaY (n:Int):Xu:=Zb (zig n)
def Zan (l:Xu):Int×Nat×Int:=(zag (Zk l).1,(Zk l).2.1,(Zk l).2.2)
theorem Zql (l:Xu):(-9223372036854775808<=(Zan l).1/\(Zan l).1<=9223372036854775807)/\(Zan l).2.1<=l.length/\((Zan l).2.2=0\/(Zan l=(0,0,6)\/Zan l=(0,0,20)))/\((Zan l).2.2=0->1<=(Zan l).2.1):=by
 have h:=ZaN l;refine ⟨ZCG h.1,h.2.1,?_,h.2.2.2⟩;rcases h.2.2.1 with a|a|a
 ·exact .inl a
 ·refine .inr (.inl ?_);unfold Zan;rw [a];rfl
 ·refine .inr (.inr ?_);unfold Zan;rw [a];rfl
theorem ZxE (n:Int) (b : -9223372036854775808<=n) (a:n<=9223372036854775807) (l:Xu):Zan (ZaY n++l)=(n,(ZaY n).length,0):=by
 unfold Zan ZaY;rw [ZdW _ (Zne b a),ZBK]
def Z1 (s:Xu):Xu:=Zb s.length++s
def ZW (l:Xu) (a:Int):Xu×Nat×Int :=
 if (Zk l).2.2≠0 then ([],0,(Zk l).2.2)
 else if max 0 a<((Zk l).1:Int) then ([],0,2)
 else if l.length - (Zk l).2.1<(Zk l).1 then ([],0,6)
 else ((l.drop (Zk l).2.1).take (Zk l).1,(Zk l).2.1+(Zk l).1,0)
theorem Zi4 (s:Xu) (hs:s.length<18446744073709551616) (a:Int) (hm:(s.length:Int)<=a) (l:Xu):ZW (Z1 s++l) a=(s,(Z1 s).length,0):=by
 unfold ZW Z1;rw [Xl,ZdW _ hs];have b:¬((0:Int)≠0):=by simp
 have d:¬max 0 a<(s.length:Int):=by omega
 have e:¬(Zb s.length++(s++l)).length - (Zb s.length).length<s.length:=by simp
 simp only [];rw [Xa b,Xa d,Xa e,Xau,Xbk,Xd]
def Zce (a:List Int):Xu:=(a.map ZaY).flatten
theorem ZjI (a:List Int) (k:Nat) (b:k<a.length):Zce (a.take (k+1))=Zce (a.take k)++ZaY (a.getD k 0):=by
 unfold Zce;rw [XG b,XN,XaO];simp [List.getD,b]
theorem ZpE (a:List Int):(Zce a).length<=10*a.length:=by
 induction a with
 | nil=>simp [Zce]
 | cons z a ih =>
   have:Zce (z::a)=ZaY z++Zce a:=by simp [Zce]
   rw [this,Xd,Xh];have:=(Zc (zig z)).2;unfold ZaY;omega
