
set_option maxRecDepth 100000
set_option maxHeartbeats 0
set_option linter.unusedVariables false
set_option linter.unusedSimpArgs false
namespace Go.Proofs.YtmomfobdpfajbaaGreat
theorem Xn {α:Type} (a:α):∃x,a=x:=⟨a,rfl⟩
theorem Xt {p:Prop} [Decidable p] (h:p:=by omega):decide p=true:=decide_eq_true h
theorem Xf {p:Prop} [Decidable p] (h:¬p:=by omega):decide p=false:=decide_eq_false h
theorem Xb {α:Type} [BEq α] [LawfulBEq α] {a b:α} (h:a≠b:=by omega):(a==b)=false:=beq_eq_false_iff_ne.2 h
abbrev Xu:=List UInt8
theorem Xa:type_of% @Nat.le_refl:=@Nat.le_refl
theorem Xc:type_of% @if_neg:=@if_neg
theorem Xd:type_of% @List.length_append:=@List.length_append
theorem Xe:type_of% @if_pos:=@if_pos
theorem Xg:type_of% @decide_eq_true_eq:=@decide_eq_true_eq
theorem Xh:type_of% @List.length_cons:=@List.length_cons
theorem Xi:type_of% @List.length_take:=@List.length_take
theorem Xj:type_of% @decide_eq_false_iff_not:=@decide_eq_false_iff_not
theorem Xk:type_of% @List.append_assoc:=@List.append_assoc
theorem Xl:type_of% @List.set_cons_succ:=@List.set_cons_succ
theorem Xm:type_of% @List.setIfInBounds_toArray:=@List.setIfInBounds_toArray
theorem Xo:type_of% @List.set_cons_zero:=@List.set_cons_zero
theorem Xp:type_of% @List.length_drop:=@List.length_drop
theorem Xq:type_of% @Array.getElem?_eq_some_iff:=@Array.getElem?_eq_some_iff
theorem Xr:type_of% @congrArg:=@congrArg
theorem Xs:type_of% @decide_eq_true:=@decide_eq_true
theorem Xv:type_of% @List.length_nil:=@List.length_nil
theorem Xw:type_of% @Bool.and_eq_true:=@Bool.and_eq_true
theorem Xx:type_of% @Option.some.injEq:=@Option.some.injEq
theorem Xy:type_of% @Nat.le_trans:=@Nat.le_trans
theorem Xz:type_of% @decide_eq_false:=@decide_eq_false
theorem XB:type_of% @List.take_length:=@List.take_length
theorem XC:type_of% @List.map_cons:=@List.map_cons
theorem XE:type_of% @List.nil_append:=@List.nil_append
theorem XF:type_of% @List.length_map:=@List.length_map
theorem XG:type_of% @List.take_succ_eq_append_getElem:=@List.take_succ_eq_append_getElem
theorem XH:type_of% @List.append_nil:=@List.append_nil
theorem XI:type_of% @List.getElem_mem:=@List.getElem_mem
theorem XJ:type_of% @Nat.lt_of_lt_of_le:=@Nat.lt_of_lt_of_le
theorem XK:type_of% @List.cons_append:=@List.cons_append
theorem XL:type_of% @Nat.zero_add:=@Nat.zero_add
theorem XM:type_of% @List.map_append:=@List.map_append
theorem XN:type_of% @List.map_nil:=@List.map_nil
theorem XO:type_of% @List.take_of_length_le:=@List.take_of_length_le
theorem XP:type_of% @List.eq_nil_of_length_eq_zero:=@List.eq_nil_of_length_eq_zero
theorem XS:type_of% @List.getElem?_cons_zero:=@List.getElem?_cons_zero
theorem XT:type_of% @List.mem_cons:=@List.mem_cons
theorem XU:type_of% @List.getElem?_toArray:=@List.getElem?_toArray
theorem XV:type_of% @List.getElem?_cons_succ:=@List.getElem?_cons_succ
theorem XW:type_of% @Option.some.inj:=@Option.some.inj
theorem XX:type_of% @Nat.zero_le:=@Nat.zero_le
theorem XY:type_of% @Int.toNat_natCast:=@Int.toNat_natCast
theorem XZ:type_of% @List.getElem?_eq_getElem:=@List.getElem?_eq_getElem
theorem X4:type_of% @List.mem_map:=@List.mem_map
theorem X6:type_of% @beq_eq_false_iff_ne:=@beq_eq_false_iff_ne
theorem X7:type_of% @List.drop_eq_getElem_cons:=@List.drop_eq_getElem_cons
theorem X8:type_of% @List.take_append_drop:=@List.take_append_drop
theorem X9:type_of% @Prod.mk.injEq:=@Prod.mk.injEq
theorem Xaa:type_of% @List.length_pos_iff:=@List.length_pos_iff
theorem Xab:type_of% @Bool.false_and:=@Bool.false_and
theorem Xac:type_of% @Bool.true_and:=@Bool.true_and
theorem Xad:type_of% @Nat.add_zero:=@Nat.add_zero
theorem Xae:type_of% @Option.map_some:=@Option.map_some
theorem Xaf:type_of% @List.drop_length:=@List.drop_length
theorem Xag:type_of% @List.flatten_cons:=@List.flatten_cons
theorem Xah:type_of% @bne_iff_ne:=@bne_iff_ne
theorem Xai:type_of% @List.length_singleton:=@List.length_singleton
theorem Xaj:type_of% @beq_iff_eq:=@beq_iff_eq
theorem Xak:type_of% @List.getElem?_eq_some_iff:=@List.getElem?_eq_some_iff
theorem Xal:type_of% @Nat.le_of_lt:=@Nat.le_of_lt
theorem Xam:type_of% @List.mem_append:=@List.mem_append
theorem Xan:type_of% @Nat.min_eq_left:=@Nat.min_eq_left
theorem Xao:type_of% @List.drop_of_length_le:=@List.drop_of_length_le
theorem Xap:type_of% @List.drop_zero:=@List.drop_zero
theorem Xaq:type_of% @List.mem_of_mem_take:=@List.mem_of_mem_take
theorem Xar:type_of% @List.size_toArray:=@List.size_toArray
theorem Xas:type_of% @List.drop_left:=@List.drop_left
theorem Xat:type_of% @Nat.add_assoc:=@Nat.add_assoc
theorem Xau:type_of% @Array.getElem?_eq_none:=@Array.getElem?_eq_none
theorem Xav:type_of% @List.length_set:=@List.length_set
theorem Xaw:type_of% @Nat.sub_self:=@Nat.sub_self
theorem Xax:type_of% @List.getElem_map:=@List.getElem_map
theorem Xay:type_of% @Int.eq_ofNat_of_zero_le:=@Int.eq_ofNat_of_zero_le
theorem Xaz:type_of% @Classical.byContradiction:=@Classical.byContradiction
theorem XaA:type_of% @List.pairwise_cons:=@List.pairwise_cons
theorem XaB:type_of% @Nat.mul_one:=@Nat.mul_one
theorem XaC:type_of% @List.take_succ_cons:=@List.take_succ_cons
theorem XaD:type_of% @Array.replicate_succ:=@Array.replicate_succ
theorem XaE:type_of% @Array.replicate_zero:=@Array.replicate_zero
theorem XaF:type_of% @List.push_toArray:=@List.push_toArray
theorem XaG:type_of% @List.append_toArray:=@List.append_toArray
theorem XaH:type_of% @Nat.succ_lt_succ:=@Nat.succ_lt_succ
theorem XaI:type_of% @List.drop_drop:=@List.drop_drop
theorem XaJ:type_of% @List.mem_singleton:=@List.mem_singleton
theorem XaK:type_of% @List.take_zero:=@List.take_zero
theorem XaL:type_of% @Prod.ext:=@Prod.ext
theorem XaM:type_of% @Nat.mod_lt:=@Nat.mod_lt
theorem XaN:type_of% @List.flatten_append:=@List.flatten_append
theorem XaO:type_of% @List.getD_eq_getElem?_getD:=@List.getD_eq_getElem?_getD
theorem XaP:type_of% @List.flatMap_cons:=@List.flatMap_cons
theorem XaQ:type_of% @List.flatMap_append:=@List.flatMap_append
theorem XaR:type_of% @Nat.le_of_not_lt:=@Nat.le_of_not_lt
theorem XaS:type_of% @List.range_succ:=@List.range_succ
theorem XaT:type_of% @UInt8.toNat_inj:=@UInt8.toNat_inj
theorem XaU:type_of% @List.length_take_le':=@List.length_take_le'
theorem XaV:type_of% @List.cons.injEq:=@List.cons.injEq
theorem XaW:type_of% @List.drop_succ_cons:=@List.drop_succ_cons
theorem XaX:type_of% @List.mem_of_mem_drop:=@List.mem_of_mem_drop
theorem XaY:type_of% @Nat.mul_zero:=@Nat.mul_zero
theorem XaZ:type_of% @List.foldl_append:=@List.foldl_append
theorem Xa0:type_of% @List.getElem_drop:=@List.getElem_drop
theorem Xa1:type_of% @List.getElem?_map:=@List.getElem?_map
theorem Xa2:type_of% @List.getElem_set_ne:=@List.getElem_set_ne
theorem Xa3:type_of% @Bool.eq_iff_iff:=@Bool.eq_iff_iff
theorem Xa4:type_of% @Prod.mk.inj:=@Prod.mk.inj
theorem Xa5:type_of% @Bool.and_false:=@Bool.and_false
theorem Xa6:type_of% @List.mem_cons_of_mem:=@List.mem_cons_of_mem
theorem Xa7:type_of% @Int.le_refl:=@Int.le_refl
theorem Xa8:type_of% @List.singleton_append:=@List.singleton_append
theorem Xa9:type_of% @List.getElem_append_left:=@List.getElem_append_left
theorem Xba:type_of% @List.getElem_append_right:=@List.getElem_append_right
theorem Xbb:type_of% @List.getElem_take:=@List.getElem_take
theorem Xbc:type_of% @List.getElem_of_mem:=@List.getElem_of_mem
theorem Xbd:type_of% @List.getElem_cons_zero:=@List.getElem_cons_zero
theorem Xbe:type_of% @List.getElem?_drop:=@List.getElem?_drop
theorem Xbf:type_of% @List.map_eq_nil_iff:=@List.map_eq_nil_iff
theorem Xbg:type_of% @Nat.xor_lt_two_pow:=@Nat.xor_lt_two_pow
theorem Xbh:type_of% @Nat.shiftRight_eq_div_pow:=@Nat.shiftRight_eq_div_pow
theorem Xbi:type_of% @Nat.min_eq_right:=@Nat.min_eq_right
theorem Xbj:type_of% @Bool.and_assoc:=@Bool.and_assoc
theorem Xbk:type_of% @List.not_mem_nil:=@List.not_mem_nil
theorem Xbl:type_of% @Nat.lt_of_le_of_lt:=@Nat.lt_of_le_of_lt
theorem Xbm:type_of% @List.take_left:=@List.take_left
theorem Xbn:type_of% @List.filter_cons_of_neg:=@List.filter_cons_of_neg
theorem Xbo:type_of% @Bool.false_ne_true:=@Bool.false_ne_true
theorem Xbp:type_of% @List.flatten_singleton:=@List.flatten_singleton
theorem Xbq:type_of% @List.getElem_set_self:=@List.getElem_set_self
theorem Xbr:type_of% @Nat.pow_le_pow_right:=@Nat.pow_le_pow_right
theorem Xbs:type_of% @List.length_filter_le:=@List.length_filter_le
theorem Xbt:type_of% @Option.isSome_iff_exists:=@Option.isSome_iff_exists
theorem Xbu:type_of% @List.map_singleton:=@List.map_singleton
theorem Xbv:type_of% @List.filter_cons_of_pos:=@List.filter_cons_of_pos
theorem Xbw:type_of% @List.getElem?_append_right:=@List.getElem?_append_right
theorem Xbx:type_of% @List.take_append_of_le_length:=@List.take_append_of_le_length
theorem Xby:type_of% @List.getElem_cons_succ:=@List.getElem_cons_succ
def Y5 (p:Prop):Prop:=p
theorem Y5.z {p:Prop} (h:Y5 p):p:=h
theorem Y4 {p:Prop} (h:p):Y5 p:=h
namespace VM
variable {i:Nat} {c:UInt8} {l:Xu}
def ZJ:Nat->Nat->Xu
 | 0,n=>[UInt8.ofNat n]
 | k+1,n=>if n<128 then [UInt8.ofNat n] else UInt8.ofNat (n%128+128)::ZJ k (n / 128)
def Zb (n:Nat):Xu:=ZJ 9 n
theorem Zkz:∀(k n:Nat),n<128^(k+1)->ZJ (k+1) n=ZJ k n
 | 0,n,h=>by
   have d:n<128:=by simpa using h
   simp [ZJ,d]
 | k+1,n,h=>by
   have b:ZJ (k+2) n=if n<128 then [UInt8.ofNat n] else UInt8.ofNat (n%128+128)::ZJ (k+1) (n / 128):=rfl
   have a:ZJ (k+1) n=if n<128 then [UInt8.ofNat n] else UInt8.ofNat (n%128+128)::ZJ k (n / 128):=rfl
   rw [b,a,Zkz k (n / 128) (by rw [Nat.div_lt_iff_lt_mul (by omega)];rw [Nat.pow_succ] at h;exact h)]
theorem Zc7 {n:Nat} (h:n<128):Zb n=[UInt8.ofNat n]:=by
 unfold Zb;rw [show (9:Nat)=8+1 from rfl,ZJ,Xe h]
theorem Zdv {n:Nat} (h:¬n<128) (hn:n<18446744073709551616):Zb n=UInt8.ofNat (n%128+128)::Zb (n / 128):=by
 have e:ZJ 9 (n / 128)=ZJ 8 (n / 128):=Zkz 8 _ (by have:(128:Nat)^(8+1)=9223372036854775808:=by decide
                                                   omega)
 unfold Zb;rw [e,show (9:Nat)=8+1 from rfl,ZJ,Xc h]
theorem Zh5:∀(k n:Nat),1<=(ZJ k n).length/\(ZJ k n).length<=k+1
 | 0,n=>by simp [ZJ]
 | k+1,n=>by
   unfold ZJ;have:=Zh5 k (n / 128)
   split<;>simp<;>omega
theorem Zc (n:Nat):1<=(Zb n).length/\(Zb n).length<=10:=Zh5 9 n
theorem Zs9 {P:Nat->Prop} (b:∀n,n<128->P n) (a:∀n,¬n<128->P (n / 128)->P n) (n:Nat):P n:=by
 induction n using Nat.strongRecOn with
 | ind n ih =>
   by_cases h:n<128
   ·exact b n h
   ·exact a n h (ih _ (by omega))
def Zec:Nat->Nat->Xu->Nat×Nat×Int
 | _,_,[]=>(0,0,6)
 | i,n,c::l=>if (i=9/\1<c.toNat)\/(0<i/\c.toNat=0) then (0,0,20) else if c.toNat<128 then (n+c.toNat%128*2^(7*i),i+1,0) else Zec (i+1) (n+c.toNat%128*2^(7*i)) l
def Zs (l:Xu):Nat×Nat×Int:=Zec 0 0 l
theorem Zg6 (i n:Nat):Zec i n []=(0,0,6):=by rw [Zec]
theorem Zi8 {n:Nat} (h:(i=9/\1<c.toNat)\/(0<i/\c.toNat=0)):Zec i n (c::l)=(0,0,20):=by rw [Zec,Xe h]
theorem Zg5 {n:Nat} (h:¬((i=9/\1<c.toNat)\/(0<i/\c.toNat=0))) (a:c.toNat<128):Zec i n (c::l)=(n+c.toNat%128*2^(7*i),i+1,0):=by rw [Zec,Xc h,Xe a]
theorem ZfL {n:Nat} (h:¬((i=9/\1<c.toNat)\/(0<i/\c.toNat=0))) (a:¬c.toNat<128):Zec i n (c::l)=Zec (i+1) (n+c.toNat%128*2^(7*i)) l:=by rw [Zec,Xc h,Xc a]
theorem ZBx (i:Nat):2^(7*(i+1))=128*2^(7*i):=by
 rw [Nat.mul_add,Nat.pow_add];omega
theorem Zeu {n:Nat} (hn:n<2^(7*i)) (c:Nat):n+c%128*2^(7*i)<2^(7*(i+1)):=by
 rw [ZBx];have a:c%128<=127:=by omega
 have h2:=Nat.mul_le_mul_right (2^(7*i)) a;omega
theorem ZCJ {j:Nat} (h:i<=j):2^(7*i)<=2^(7*j):=Xbr (by omega) (by omega)
theorem ZBy:2^(7*9)=9223372036854775808:=by decide
theorem Zg2 {n:Nat} (a:n<2^(7*i)) (hi:i<=9) (h:¬((i=9/\1<c.toNat)\/(0<i/\c.toNat=0))):n+c.toNat%128*2^(7*i)<18446744073709551616:=by
 by_cases d:i=9
 ·subst d;have b:c.toNat=1:=by omega
  rw [ZBy] at a ⊢;rw [b];omega
 ·have h1:=Zeu a c.toNat;have e:2^(7*(i+1))<=2^(7*9):=ZCJ (by omega);rw [ZBy] at e;omega
theorem Ze7 (hi:i<=9) (h:¬((i=9/\1<c.toNat)\/(0<i/\c.toNat=0))) (h2:¬c.toNat<128):i+1<=9:=by
 by_cases h9:i=9<;>omega
theorem Zg4:∀(l:Xu) (i n:Nat),i<=9->n<2^(7*i) ->
  (Zec i n l).1<18446744073709551616/\(Zec i n l).2.1<=i+l.length/\((Zec i n l).2.2=0\/(Zec i n l=(0,0,6)\/Zec i n l=(0,0,20)))/\((Zec i n l).2.2=0->1<=(Zec i n l).2.1)
 | [],i,n,_,_=>by rw [Zg6];simp
 | c::l,i,n,hi,hn=>by
   by_cases h:(i=9/\1<c.toNat)\/(0<i/\c.toNat=0)
   ·rw [Zi8 h];simp
   ·by_cases a:c.toNat<128
    ·rw [Zg5 h a];refine ⟨Zg2 hn hi h,by simp,.inl rfl,fun _=>by simp⟩
    ·rw [ZfL h a];have:=Zg4 l (i+1) _ (Ze7 hi h a) (Zeu hn c.toNat);rw [Xh];exact ⟨this.1,by omega,this.2.2.1,this.2.2.2⟩
theorem Zba (l:Xu):(Zs l).1<18446744073709551616/\(Zs l).2.1<=l.length/\((Zs l).2.2=0\/(Zs l=(0,0,6)\/Zs l=(0,0,20)))/\((Zs l).2.2=0->1<=(Zs l).2.1):=by
 have:=Zg4 l 0 0 (by omega) (by omega);rw [XL] at this;exact this
theorem Zhy {n:Nat} (h:n<256):(UInt8.ofNat n).toNat=n:=by simp;omega
theorem Zx6 (n:Nat):∀(i a:Nat) (l:Xu),i<=9->a+n*2^(7*i)<18446744073709551616->(i=0\/0<n) ->
  Zec i a (Zb n++l)=(a+n*2^(7*i),i+(Zb n).length,0):=by
 refine Zs9 (P:=fun n=>∀(i a:Nat) (l:Xu),i<=9->a+n*2^(7*i)<18446744073709551616->(i=0\/0<n) ->
  Zec i a (Zb n++l)=(a+n*2^(7*i),i+(Zb n).length,0)) ?_ ?_ n
 ·intro n h i a l hi hf k;have b:(UInt8.ofNat n).toNat=n:=Zhy (by omega);rw [Zc7 h,Xa8,Zg5]
  ·rw [b,Nat.mod_eq_of_lt h];rfl
  ·rw [b];rintro (⟨e,m⟩|⟨e,m⟩)
   ·subst e;rw [ZBy] at hf;omega
   ·omega
  ·omega
 ·intro n h ih i a l hi hf k
  have d:n<18446744073709551616:=by
   have:1<=2^(7*i):=Nat.one_le_two_pow;have:=Nat.mul_le_mul_left n this;omega
  have b:(UInt8.ofNat (n%128+128)).toNat=n%128+128:=Zhy (by omega)
  have f:i+1<=9:=by
   by_cases e:i=9
   ·subst e;rw [ZBy] at hf;omega
   ·omega
  have j:n*2^(7*i)=n%128*2^(7*i)+n / 128*(128*2^(7*i)):=by
   have o:n=n%128+n / 128*128:=by omega
   rw [<- Nat.mul_assoc,<- Nat.add_mul,<- o]
  have g:a+n%128*2^(7*i)+n / 128*2^(7*(i+1))=a+n*2^(7*i):=by
   rw [ZBx,j,Xat]
  rw [Zdv h d,XK,ZfL]
  ·rw [b,show (n%128+128)%128=n%128 by omega,ih (i+1) _ l f (by rw [g];exact hf) (.inr (by omega)),g,Xh];simp only [X9,true_and,and_true];omega
  ·rw [b];omega
  ·rw [b];omega
theorem ZdU (n:Nat) (hn:n<18446744073709551616) (l:Xu):Zs (Zb n++l)=(n,(Zb n).length,0):=by
 have:=Zx6 n 0 0 l (by omega) (by omega) (.inl rfl);rw [XL,XL,XaY,Nat.pow_zero,XaB] at this;exact this
theorem Zoe:∀(l:Xu) (i a n k:Nat),i<=9->a<2^(7*i)->Zec i a l=(n,k,0)->∃m,n=a+m*2^(7*i)/\i<k/\k<=i+l.length/\Zb m=l.take (k - i)/\(0<i->0<m)
 | [],i,a,n,k,_,_,h=>by rw [Zg6] at h;simp at h
 | c::l,i,a,n,k,hi,ha,h=>by
   by_cases f:(i=9/\1<c.toNat)\/(0<i/\c.toNat=0)
   ·rw [Zi8 f] at h;simp at h
   ·by_cases d:c.toNat<128
    ·rw [Zg5 f d] at h;simp only [X9,and_true] at h;obtain ⟨rfl,rfl⟩:=h;refine ⟨c.toNat,by rw [Nat.mod_eq_of_lt d],by omega,by rw [Xh];omega,?_,by omega⟩;rw [Zc7 d,show i+1 - i=1 by omega,XaC,XaK];simp
    ·rw [ZfL f d] at h;have e:=Ze7 hi f d;obtain ⟨m,p,hk,t,g,r⟩:=Zoe l (i+1) _ n k e (Zeu ha c.toNat) h;have hc:=c.toNat_lt;have b:=(Zg4 l (i+1) _ e (Zeu ha c.toNat)).1;rw [h] at b;have s:=r (by omega)
     have u:c.toNat%128+128*m<18446744073709551616:=by
      have q:1<=2^(7*i):=Nat.one_le_two_pow;have h3:=Nat.mul_le_mul_left (c.toNat%128) q;have h4:=Nat.mul_le_mul_left (m*128) q;rw [ZBx,<- Nat.mul_assoc] at p;have j:n<18446744073709551616:=b;omega
     refine ⟨c.toNat%128+128*m,?_,by omega,by rw [Xh];omega,?_,by omega⟩
     ·rw [p,ZBx,Nat.add_mul,Xat,Nat.mul_comm 128 m,Nat.mul_assoc]
     ·have o:¬c.toNat%128+128*m<128:=by omega
      rw [Zdv o u,show (c.toNat%128+128*m) / 128=m by omega,g,show k - i=(k - (i+1))+1 by omega,XaC,show (c.toNat%128+128*m)%128+128=c.toNat by omega];simp
theorem ZdC {n k:Nat} (h:Zs l=(n,k,0)):Zb n++l.drop k=l:=by
 obtain ⟨m,a,_,_,b,_⟩:=Zoe l 0 0 n k (by omega) (by omega) h;rw [XL,XaY,Nat.pow_zero,XaB] at a;rw [a,b,Nat.sub_zero,X8]
def zig (n:Int):Nat:=if 0<=n then (2*n).toNat else (-2*n - 1).toNat
def zag (u:Nat):Int:=if u%2=0 then ((u / 2:Nat):Int) else -1 - ((u / 2:Nat):Int)
theorem ZB3 (n:Int):zag (zig n)=n:=by unfold zag zig;split<;>split<;>omega
theorem Znk {n:Int} (h0 : -9223372036854775808<=n) (h1:n<=9223372036854775807):zig n<18446744073709551616:=by unfold zig;split<;>omega
theorem ZCW {u:Nat} (h:u<18446744073709551616) : -9223372036854775808<=zag u/\zag u<=9223372036854775807:=by unfold zag;split<;>omega
def ZaV (n:Int):Xu:=Zb (zig n)
def Za8 (l:Xu):Int×Nat×Int:=(zag (Zs l).1,(Zs l).2.1,(Zs l).2.2)
theorem ZqF (l:Xu):(-9223372036854775808<=(Za8 l).1/\(Za8 l).1<=9223372036854775807)/\(Za8 l).2.1<=l.length/\((Za8 l).2.2=0\/(Za8 l=(0,0,6)\/Za8 l=(0,0,20)))/\((Za8 l).2.2=0->1<=(Za8 l).2.1):=by
 have h:=Zba l;refine ⟨ZCW h.1,h.2.1,?_,h.2.2.2⟩;rcases h.2.2.1 with a|a|a
 ·exact .inl a
 ·refine .inr (.inl ?_);unfold Za8;rw [a];rfl
 ·refine .inr (.inr ?_);unfold Za8;rw [a];rfl
theorem Zx7 (n:Int) (b : -9223372036854775808<=n) (a:n<=9223372036854775807) (l:Xu):Za8 (ZaV n++l)=(n,(ZaV n).length,0):=by
 unfold Za8 ZaV;rw [ZdU _ (Znk b a),ZB3]
def Z5 (s:Xu):Xu:=Zb s.length++s
def Zah (l:Xu) (a:Int):Xu×Nat×Int :=
 if (Zs l).2.2≠0 then ([],0,(Zs l).2.2)
 else if max 0 a<((Zs l).1:Int) then ([],0,2)
 else if l.length - (Zs l).2.1<(Zs l).1 then ([],0,6)
 else ((l.drop (Zs l).2.1).take (Zs l).1,(Zs l).2.1+(Zs l).1,0)
theorem Zjb (s:Xu) (hs:s.length<18446744073709551616) (a:Int) (hm:(s.length:Int)<=a) (l:Xu):Zah (Z5 s++l) a=(s,(Z5 s).length,0):=by
 unfold Zah Z5;rw [Xk,ZdU _ hs];have b:¬((0:Int)≠0):=by simp
 have e:¬max 0 a<(s.length:Int):=by omega
 have d:¬(Zb s.length++(s++l)).length - (Zb s.length).length<s.length:=by simp
 simp only [];rw [Xc b,Xc e,Xc d,Xas,Xbm,Xd]
def Zcc (a:List Int):Xu:=(a.map ZaV).flatten
theorem ZjK (a:List Int) (k:Nat) (b:k<a.length):Zcc (a.take (k+1))=Zcc (a.take k)++ZaV (a.getD k 0):=by
 unfold Zcc;rw [XG b,XM,XaN];simp [List.getD,b]
theorem ZpX (a:List Int):(Zcc a).length<=10*a.length:=by
 induction a with
 | nil=>simp [Zcc]
 | cons z a ih =>
   have:Zcc (z::a)=ZaV z++Zcc a:=by simp [Zcc]
   rw [this,Xd,Xh];have:=(Zc (zig z)).2;unfold ZaV;omega
end VM
namespace PM
open VM
variable {l r l1:Xu} {lo hi:Int} {j i x:Nat}
abbrev Zk:=Int×List Int
def Za1 (b:Int):Int->List Int->Bool
 | _,[]=>true
 | a,z::zs=>decide (a<z)&&decide (z<b)&&Za1 b z zs
def ZcM (a:Int) (b:List Int):Bool:=Za1 a (-1) b
def Zhn (a:Int) (b:List Int):Nat->Int
 | 0=>a
 | k+1=>b.getD k 0
theorem ZoD (c:Int):∀(b:List Int) (a:Int),Za1 c a b=true↔∀k,k<b.length->Zhn a b k<b.getD k 0/\b.getD k 0<c
 | [],a=>by simp [Za1]
 | z::b,a=>by
   rw [Za1,Xw,Xw,Xg,Xg,ZoD c b z];constructor
   ·rintro ⟨⟨f,g⟩,e⟩ k d;cases k with
    | zero=>exact ⟨f,g⟩
    | succ k =>
      have:=e k (by simpa using d);cases k with
      | zero=>exact this
      | succ k=>exact this
   ·intro h;refine ⟨h 0 (by simp),fun k d => ?_⟩;have:=h (k+1) (by simpa using d);cases k with
    | zero=>exact this
    | succ k=>exact this
theorem ZhR (a:Int) (b:List Int):ZcM a b=true↔∀k,k<b.length->Zhn (-1) b k<b.getD k 0/\b.getD k 0<a:=ZoD a b (-1)
theorem ZiK (c:Int) (b:List Int):ZcM c b=true↔∀k,k<b.length->0<=b.getD k 0/\b.getD k 0<c/\(0<k->b.getD (k - 1) 0<b.getD k 0):=by
 rw [ZhR];constructor
 ·intro h
  have d:∀k,k<b.length->0<=b.getD k 0:=by
   intro k
   induction k with
   | zero=>intro a;have:=(h 0 a).1;simp only [Zhn] at this;omega
   | succ k ih=>intro a;have h1:=ih (by omega);have:=(h (k+1) a).1;simp only [Zhn] at this;omega
  intro k a;refine ⟨d k a,(h k a).2,fun h0 => ?_⟩;have:=(h k a).1;cases k with
  | zero=>omega
  | succ k=>exact this
 ·intro h k a;refine ⟨?_,(h k a).2.1⟩;cases k with
  | zero=>have:=(h 0 a).1;simp only [Zhn];omega
  | succ k=>exact (h (k+1) a).2.2 (by omega)
theorem ZoE (b:Int):∀(c:List Int) (a:Int),Za1 b a c=true->c≠[]->(c.length:Int)<=b - a - 1
 | [],_,_,h=>absurd rfl h
 | [z],a,h,_=>by simp [Za1] at h;simp;omega
 | z::y::c,a,h,_=>by
   rw [Za1,Xw,Xw,Xg] at h;have:=ZoE b (y::c) z h.2 (by simp);rw [Xh,Int.natCast_add];omega
def ZdX (p:Zk):Bool:=p.2.isEmpty || !ZcM 1048576 p.2
def Zeh (ps:List Zk):List Int:=ps.map (·.1)
def isL (ps:List Zk):Bool:=ZcM 65536 (Zeh ps) && !ps.any ZdX
theorem Zpi (ps:List Zk):isL ps=true↔ZcM 65536 (Zeh ps)=true/\∀p∈ps,p.2≠[]/\ZcM 1048576 p.2=true:=by
 unfold isL;rw [Xw,Bool.not_eq_true',List.any_eq_false];constructor
 ·rintro ⟨a,c⟩;refine ⟨a,fun p b => ?_⟩;have:=c p b;unfold ZdX at this;simp at this;exact ⟨by simpa using this.1,this.2⟩
 ·rintro ⟨a,c⟩;refine ⟨a,fun p b => ?_⟩;have:=c p b;unfold ZdX;simp [this.1,this.2]
def okP (n:Int) (p:Zk):Prop:=n<=p.1/\p.1<65536/\p.2≠[]/\ZcM 1048576 p.2=true
def okL:Int->List Zk->Prop
 | _,[]=>True
 | n,p::ps=>okP n p/\okL (p.1+1) ps
theorem Zuh:∀(ps:List Zk) (n:Int),okL n ps↔Za1 65536 (n - 1) (Zeh ps)=true/\∀p∈ps,p.2≠[]/\ZcM 1048576 p.2=true
 | [],n=>by simp [okL,Zeh,Za1]
 | p::ps,n=>by
   have e:Zeh (p::ps)=p.1::Zeh ps:=rfl;have ih:=Zuh ps (p.1+1);rw [show p.1+1 - 1=p.1 by omega] at ih;rw [okL,ih,e,Za1,Xw,Xw,Xg,Xg,List.forall_mem_cons];unfold okP;constructor
   ·rintro ⟨⟨g,f,d,c⟩,b,a⟩;exact ⟨⟨⟨by omega,f⟩,b⟩,⟨d,c⟩,a⟩
   ·rintro ⟨⟨⟨g,f⟩,b⟩,⟨d,c⟩,a⟩;exact ⟨⟨by omega,f,d,c⟩,b,a⟩
theorem Zed (ps:List Zk):isL ps=true↔okL 0 ps:=by
 rw [Zpi,Zuh];rfl
def ZI:Int->List Zk->Int
 | n,[]=>n
 | _,p::ps=>ZI (p.1+1) ps
theorem Zdb:∀(a b:List Zk) (n:Int),ZI n (a++b)=ZI (ZI n a) b
 | [],_,_=>rfl
 | p::a,b,n=>Zdb a b (p.1+1)
theorem Zgj:∀(a b:List Zk) (n:Int),okL n (a++b)↔okL n a/\okL (ZI n a) b
 | [],_,_=>by simp [okL,ZI]
 | p::a,b,n=>by rw [XK,okL,okL,ZI,Zgj a b (p.1+1),and_assoc]
theorem ZbH:∀(ps:List Zk) (n:Int),okL n ps->n<=ZI n ps/\(n<=65536->ZI n ps<=65536)/\(ps.length:Int)<=ZI n ps - n
 | [],n,_=>by simp [ZI]
 | p::ps,n,h=>by
   rw [okL] at h;have a:=h.1;unfold okP at a;have:=ZbH ps (p.1+1) h.2;rw [ZI,Xh,Int.natCast_add];omega
theorem Zpp (ps:List Zk) (h:okL 0 ps):ps.length<=65536:=by
 have:=ZbH ps 0 h;omega
theorem ZfR {ps:List Zk} {n:Int} (h:okL n ps) (k:Nat):okL n (ps.take k):=by
 rw [<- X8 k ps,Zgj] at h;exact h.1
theorem Zhe {ps:List Zk} {n:Int} (h:okL n ps) (k:Nat):okL (ZI n (ps.take k)) (ps.drop k):=by
 have a:=h;rw [<- X8 k ps,Zgj] at a;exact a.2
def ZaB:Int->List Int->Xu
 | _,[]=>[]
 | n,z::zs=>Zb (z - n).toNat++ZaB (z+1) zs
def ZeW (n:Int) (p:Zk):Xu:=Zb (p.1 - n).toNat++(Zb p.2.length++ZaB 0 p.2)
def ZE:Int->List Zk->Xu
 | _,[]=>[]
 | n,p::ps=>ZeW n p++ZE (p.1+1) ps
theorem ZbN:∀(a b:List Zk) (n:Int),ZE n (a++b)=ZE n a++ZE (ZI n a) b
 | [],_,_=>rfl
 | p::a,b,n=>by rw [XK,ZE,ZE,ZI,ZbN a b (p.1+1),Xk]
def ZaR:Int->List Int->Int
 | n,[]=>n
 | _,z::zs=>ZaR (z+1) zs
theorem Zgf:∀(a:List Int) (n z:Int),ZaR n (a++[z])=z+1
 | [],n,z=>rfl
 | y::a,n,z=>Zgf a (y+1) z
theorem Ziw:∀(a:List Int) (n z:Int),ZaB n (a++[z])=ZaB n a++Zb (z - ZaR n a).toNat
 | [],n,z=>by simp [ZaB,ZaR]
 | y::a,n,z=>by
   rw [XK,ZaB,ZaB,Ziw a (y+1) z,Xk];rfl
theorem Zgt (a:Int):∀(b:List Int) (n z:Int),Za1 a (n - 1) (b++[z])=(Za1 a (n - 1) b&&(decide (ZaR n b<=z)&&decide (z<a)))
 | [],n,z=>by
   show (decide (n - 1<z)&&decide (z<a)&&true)=(true&&(decide (n<=z)&&decide (z<a)))
   have e:(n - 1<z)=(n<=z):=propext ⟨fun h=>by omega,fun h=>by omega⟩;simp only [e,Bool.and_true,Xac]
 | y::b,n,z=>by
   have:=Zgt a b (y+1) z;rw [show y+1 - 1=y by omega] at this;rw [XK,Za1,Za1,this,ZaR,Xbj,Xbj,Xbj]
theorem Zhb (a:Int):∀(b:List Int) (n:Int),n<=a->Za1 a (n - 1) b=true->n<=ZaR n b/\ZaR n b<=a
 | [],n,h,_=>⟨Xa7 _,h⟩
 | z::b,n,h,hr=>by
   rw [Za1,Xw,Xw,Xg,Xg] at hr;have:=Zhb a b (z+1) (by omega) (by rw [show z+1 - 1=z by omega];exact hr.2);rw [ZaR];omega
def Zby (ps:List Zk) (i:Nat):Nat:=(ZE 0 (ps.take (32*i))).length
def h1L (ps:List Zk) (i:Nat):Nat:=(ZI 0 (ps.take (32*(i+1))) - 1).toNat
def h2L (ps:List Zk) (i:Nat):Nat:=Zby ps (i+1) - Zby ps i
def ZgE (ps:List Zk) (i:Nat):Xu:=Zb (h1L ps i)++Zb (h2L ps i)
def Z7 (ps:List Zk):Nat->Nat->Xu
 | _,0=>[]
 | i,c+1=>ZgE ps i++Z7 ps (i+1) c
theorem Zha (ps:List Zk):∀(c i:Nat),Z7 ps i (c+1)=Z7 ps i c++ZgE ps (i+c)
 | 0,i=>by simp [Z7]
 | c+1,i=>by rw [Z7,Zha ps c (i+1),Z7,Xk,show i+1+c=i+(c+1) by omega]
def cnt (n:Nat):Nat:=(n+31) / 32
def ZY (ps:List Zk):Xu:=Zb ps.length++Z7 ps 0 (cnt ps.length)++ZE 0 ps
def Dec (b:Xu) (ps:List Zk):Prop:=isL ps=true/\ZY ps=b
theorem ZfJ:∀(a:List Int) (n:Int),a.length<=(ZaB n a).length/\(ZaB n a).length<=10*a.length
 | [],_=>by simp [ZaB]
 | z::a,n=>by
   have:=ZfJ a (z+1);have h:=Zc (z - n).toNat;rw [ZaB,Xd,Xh];omega
theorem Zkf (n:Int) (p:Zk):2+p.2.length<=(ZeW n p).length/\(ZeW n p).length<=20+10*p.2.length:=by
 have h1:=Zc (p.1 - n).toNat;have h2:=Zc p.2.length;have h3:=ZfJ p.2 0;unfold ZeW;rw [Xd,Xd];omega
def ZaU:List Zk->Nat
 | []=>0
 | p::ps=>p.2.length+ZaU ps
theorem Zeq:∀(ps:List Zk) (n:Int),(ZE n ps).length<=20*ps.length+10*ZaU ps
 | [],_=>by simp [ZE]
 | p::ps,n=>by
   have:=Zeq ps (p.1+1);have h:=Zkf n p;rw [ZE,ZaU,Xd,Xh];omega
theorem ZgU:∀(ps:List Zk) (n:Int),okL n ps->3*ps.length<=(ZE n ps).length
 | [],_,_=>by simp [ZE]
 | p::ps,n,h=>by
   rw [okL] at h;have:=ZgU ps (p.1+1) h.2;have h3:=Zkf n p;have h4:=Xaa.2 h.1.2.2.1;rw [ZE,Xd,Xh];omega
theorem ZeB:∀(ps:List Zk) (k:Nat),ZaU (ps.take k)<=ZaU ps
 | [],k=>by simp [ZaU]
 | p::ps,0=>by simp [ZaU]
 | p::ps,k+1=>by
   have:=ZeB ps k;rw [XaC,ZaU,ZaU];omega
theorem ZdE (ps:List Zk):∀(c i:Nat),(Z7 ps i c).length<=20*c
 | 0,i=>by simp [Z7]
 | c+1,i=>by
   have:=ZdE ps c (i+1);have h1:=Zc (h1L ps i);have h2:=Zc (h2L ps i);rw [Z7,ZgE,Xd,Xd];omega
theorem ZtV (ps:List Zk) (i:Nat):Zby ps i<=20*ps.length+10*ZaU ps:=by
 have:=Zeq (ps.take (32*i)) 0;have h:=ZeB ps (32*i);have h2:(ps.take (32*i)).length<=ps.length:=XaU _ _;unfold Zby;omega
def Zmh (l:Xu):Option (Nat×Xu):=if (Zs l).2.2=0 then some ((Zs l).1,l.drop (Zs l).2.1) else none
theorem Zmi {n:Nat} (a:n<18446744073709551616) (r:Xu):Zmh (Zb n++r)=some (n,r):=by
 unfold Zmh;rw [ZdU n a r];simp
theorem Zvl {n:Nat} (h:Zmh l=some (n,r)):l=Zb n++r/\n<18446744073709551616/\r.length<l.length:=by
 unfold Zmh at h
 split at h
 ·rename_i a;simp only [Xx,X9] at h;obtain ⟨c,e⟩:=h;have d:=ZdC (l:=l) (n:=(Zs l).1) (k:=(Zs l).2.1) (by rw [<- a]);have b:=Zba l;have h3:=b.2.2.2 a;subst c e;exact ⟨d.symm,b.1,by rw [Xp];omega⟩
 ·cases h
theorem Zx9:Zmh []=none:=by
 unfold Zmh;rw [show Zs []=(0,0,6) from Zg6 0 0];simp
def ZaL (lo hi:Int) (l:Xu):Option (Nat×Xu):=match Zmh l with
 | some (n,r)=>if lo<=(n:Int)/\(n:Int)<=hi then some (n,r) else none
 | none=>none
theorem ZeT {n:Nat} (b:n<18446744073709551616) (a:lo<=(n:Int)) (c:(n:Int)<=hi) (r:Xu):ZaL lo hi (Zb n++r)=some (n,r):=by
 unfold ZaL;rw [Zmi b];simp [a,c]
theorem Zbz {n:Nat} (h:ZaL lo hi l=some (n,r)):l=Zb n++r/\n<18446744073709551616/\r.length<l.length/\lo<=(n:Int)/\(n:Int)<=hi:=by
 unfold ZaL at h
 split at h
 ·rename_i m s hs
  split at h
  ·rename_i a;simp only [Xx,X9] at h;obtain ⟨rfl,rfl⟩:=h;have:=Zvl hs;exact ⟨this.1,this.2.1,this.2.2,a.1,a.2⟩
  ·cases h
 ·cases h
theorem Zhc (lo hi:Int):ZaL lo hi []=none:=by unfold ZaL;rw [Zx9]
theorem Zb0 {a b:Nat} {m:Xu} (e:a<18446744073709551616) (d:b<18446744073709551616) (h:Zb a++l=Zb b++m):a=b/\l=m:=by
 have c:=Zmi e l;rw [h,Zmi d] at c;simp only [Xx,X9] at c;exact ⟨c.1.symm,c.2.symm⟩
theorem ZqE (a:Int) (hf:a<=1048576):∀(c b:List Int) (n:Int) (l m:Xu),0<=n->c.length=b.length->Za1 a (n - 1) c=true->Za1 a (n - 1) b=true->ZaB n c++l=ZaB n b++m->c=b/\l=m
 | [],[],n,l,m,_,_,_,_,h=>⟨rfl,h⟩
 | [],_::_,_,_,_,_,h,_,_,_=>by simp at h
 | _::_,[],_,_,_,_,h,_,_,_=>by simp at h
 | x::c,y::b,n,l,m,hn,hl,hx,hy,h=>by
   rw [Za1,Xw,Xw,Xg,Xg] at hx hy;rw [ZaB,ZaB,Xk,Xk] at h;obtain ⟨h1,g⟩:=Zb0 (by omega) (by omega) h;have e:x=y:=by omega
   subst e;obtain ⟨f,d⟩:=ZqE a hf c b (x+1) l m (by omega) (by simpa using hl) (by rw [show x+1 - 1=x by omega];exact hx.2) (by rw [show x+1 - 1=x by omega];exact hy.2) g;exact ⟨by rw [f],d⟩
theorem ZfT {a:List Int} (h:ZcM 1048576 a=true):a.length<=1048576:=by
 by_cases b:a=[]
 ·subst b;simp
 ·have:=ZoE 1048576 a (-1) h b;omega
def Zca (n:Int) (l:Xu) (p:Zk) (r:Xu):Prop:=okP n p/\l=ZeW n p++r
theorem ZmQ {n:Int} {p q:Zk} {s:Xu} (hn:0<=n) (h:Zca n l p r) (k:Zca n l q s):p=q/\r=s:=by
 obtain ⟨a,h⟩:=h;obtain ⟨b,k⟩:=k;rw [h] at k;unfold ZeW at k;simp only [Xk] at k;unfold okP at a b;have lp:=ZfT a.2.2.2;have lq:=ZfT b.2.2.2;obtain ⟨h1,g⟩:=Zb0 (by omega) (by omega) k;obtain ⟨f,e⟩:=Zb0 (by omega) (by omega) g;obtain ⟨d,c⟩:=ZqE 1048576 (by omega) p.2 q.2 0 r s (by omega) f a.2.2.2 b.2.2.2 e;exact ⟨XaL (by omega) d,c⟩
def Zr0 (b:Xu) (n j:Nat) (ps:List Zk) (l:Xu):Prop:=∀PS,Dec b PS->PS.length=n/\ps=PS.take j/\l=ZE (ZI 0 ps) (PS.drop j)
theorem Zjk {ps:List Zk} (h:okL 0 ps):0<=ZI 0 ps:=(ZbH ps 0 h).1
theorem ZuV {b:Xu} {n:Nat} {ps:List Zk} {p:Zk} (h:Zr0 b n j ps l) (hj:j<n) (m:okL 0 ps) (q:Zca (ZI 0 ps) l p r):Zr0 b n (j+1) (ps++[p]) r:=by
 intro PS d;obtain ⟨s,k,g⟩:=h PS d;have c:j<PS.length:=by omega
 have e:PS.drop j=PS[j]::PS.drop (j+1):=X7 c;have a:=Zhe ((Zed PS).1 d.1) j;rw [<- k,e,okL] at a;rw [e,ZE] at g;obtain ⟨f,o⟩:=ZmQ (Zjk m) q ⟨a.1,g⟩;refine ⟨s,?_,?_⟩
 ·rw [XG c,<- k,f]
 ·rw [o,Zdb,f];rfl
def ZgN (b:Xu):Prop:=∀PS,¬Dec b PS
theorem ZuU {b:Xu} {n:Nat} {ps:List Zk} (h:Zr0 b n j ps l) (hj:j<n) (g:∀p r,¬Zca (ZI 0 ps) l p r):ZgN b:=by
 intro PS c;obtain ⟨h1,k,f⟩:=h PS c;have d:j<PS.length:=by omega
 have e:PS.drop j=PS[j]::PS.drop (j+1):=X7 d;have a:=Zhe ((Zed PS).1 c.1) j;rw [<- k,e,okL] at a;rw [e,ZE] at f;exact g _ _ ⟨a.1,f⟩
theorem Zxq {b:Xu} {n:Nat} {ps PS:List Zk} (h:Zr0 b n n ps l) (a:Dec b PS):ps=PS/\l=[]:=by
 obtain ⟨c,e,d⟩:=h PS a;rw [<- c,XB] at e;rw [<- c,Xaf,ZE] at d;exact ⟨e,d⟩
def Zlq (b:Xu) (n i:Nat) (hs:List (Nat×Nat)) (l:Xu):Prop:=∀PS,Dec b PS->PS.length=n/\hs=(List.range i).map (fun k=>(h1L PS k,h2L PS k))/\l=Z7 PS i (cnt n - i)++ZE 0 PS
theorem Zlg {b:Xu} {PS:List Zk} (h:Dec b PS):3*PS.length+1<=b.length/\PS.length<=65536:=by
 have a:=(Zed PS).1 h.1;have h1:=ZgU PS 0 a;have h2:=Zpp PS a;have h3:=Zc PS.length;rw [<- h.2];unfold ZY;rw [Xd,Xd];omega
theorem Zxy {b:Xu} {PS:List Zk} (h:Dec b PS):(ZE 0 PS).length<=b.length:=by
 rw [<- h.2];unfold ZY;rw [Xd];omega
theorem ZnX {PS:List Zk} (i:Nat):Zby PS i<=(ZE 0 PS).length:=by
 unfold Zby
 conv=>rhs;rw [<- X8 (32*i) PS,ZbN,Xd]
 omega
theorem Zjc {b:Xu} {PS:List Zk} (h:Dec b PS) (i:Nat):h1L PS i<=65535/\h2L PS i<=b.length:=by
 have a:=(Zed PS).1 h.1;have h1:=ZbH _ 0 (ZfR a (32*(i+1)));have h2:=Zxy h;have h3:=ZnX (PS:=PS) (i+1);unfold h1L h2L;omega
theorem Zql {b:Xu} {n:Nat} {m:Int} (hb:b.length<4611686018427387904) (h:ZaL 0 m b=some (n,l)):Zlq b n 0 [] l:=by
 intro PS a;have hl:=Zlg a;have e:=Zbz h;have c:=a.2;unfold ZY at c;rw [e.1,Xk] at c;obtain ⟨d,f⟩:=Zb0 (by omega) e.2.1 c;exact ⟨d,rfl,by rw [<- f,d,Nat.sub_zero]⟩
theorem Zsj {b:Xu} {m:Int} (hm:m=min 65536 ((b.length / 3:Nat):Int)) (h:ZaL 0 m b=none):ZgN b:=by
 intro PS a;have hl:=Zlg a;have c:=a.2;unfold ZY at c;rw [<- c,Xk,ZeT (by omega) (by omega) (by omega)] at h;cases h
theorem Zg9 {PS:List Zk} {n:Nat} (hi:i<cnt n):Z7 PS i (cnt n - i)=ZgE PS i++Z7 PS (i+1) (cnt n - (i+1)):=by
 rw [show cnt n - i=(cnt n - (i+1))+1 by omega,Z7]
theorem Zsk {b d:Xu} {n:Nat} {hs:List (Nat×Nat)} {y:Nat} {m:Int} (hb:b.length<4611686018427387904) (h:Zlq b n i hs l) (hi:i<cnt n) (q:ZaL 0 m l=some (x,l1)) (t:ZaL 0 m l1=some (y,d)):Zlq b n (i+1) (hs++[(x,y)]) d:=by
 intro PS c;obtain ⟨p,o,a⟩:=h PS c;have k:=Zjc c i;rw [Zg9 hi,ZgE,Xk,Xk] at a;have e:=Zbz q;have f:=Zbz t;rw [e.1,f.1] at a;obtain ⟨g,a⟩:=Zb0 e.2.1 (by omega) a;obtain ⟨s,a⟩:=Zb0 f.2.1 (by omega) a;refine ⟨p,?_,a⟩;rw [XaS,XM,<- o,g,s];rfl
theorem Zqj {b:Xu} {n:Nat} {hs:List (Nat×Nat)} (hb:b.length<4611686018427387904) (h:Zlq b n i hs l) (hi:i<cnt n) (c:ZaL 0 9223372036854775807 l=none):ZgN b:=by
 intro PS a;obtain ⟨h3,h4,e⟩:=h PS a;have d:=Zjc a i;rw [e,Zg9 hi,ZgE,Xk,Xk,ZeT (by omega) (by omega) (by omega)] at c;cases c
theorem Zqk {b:Xu} {n:Nat} {hs:List (Nat×Nat)} (hb:b.length<4611686018427387904) (h:Zlq b n i hs l) (hi:i<cnt n) (c:ZaL 0 9223372036854775807 l=some (x,l1)) (d:ZaL 0 9223372036854775807 l1=none):ZgN b:=by
 intro PS a;obtain ⟨h3,h4,f⟩:=h PS a;have e:=Zjc a i;rw [f,Zg9 hi,ZgE,Xk,Xk,ZeT (by omega) (by omega) (by omega)] at c;simp only [Xx,X9] at c;rw [<- c.2,ZeT (by omega) (by omega) (by omega)] at d;cases d
theorem Zsl {b:Xu} {n:Nat} {hs:List (Nat×Nat)} (h:Zlq b n (cnt n) hs l):Zr0 b n 0 [] l:=by
 intro PS a;obtain ⟨d,h4,c⟩:=h PS a;rw [Xaw,Z7,XE] at c;exact ⟨d,rfl,c⟩
