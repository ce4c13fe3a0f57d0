import Derived.Test.YtmomfobdpfajbaaGreatZA1
import Derived.Lib.ValidLaws
import Derived.Test.YtmomfobdpfajbaaGreatProg
import Derived.WalkKit
import Derived.Lib.Hide
set_option maxRecDepth 100000
set_option maxHeartbeats 0
set_option linter.unusedVariables false
set_option linter.unusedSimpArgs false
namespace Go.Proofs.YtmomfobdpfajbaaGreat
open Tryz
namespace UM
open Go.Lib
def Zdg:Nat->Xu->List Int
 | 0,_=>[]
 | n+1,l=>if l=[] then [] else ((decodeL l).1:Int)::Zdg n (l.drop (decodeL l).2)
def runesL (l:Xu):List Int:=Zdg l.length l
theorem ZjA:∀(n m:Nat) (l:Xu),l.length<=n->l.length<=m->Zdg n l=Zdg m l
 | 0,0,l,_,_=>rfl
 | 0,m+1,l,h,_=>by
   have:l=[]:=XP (by omega);simp [Zdg,this]
 | n+1,0,l,_,h=>by
   have:l=[]:=XP (by omega);simp [Zdg,this]
 | n+1,m+1,l,h,k=>by
   unfold Zdg
   by_cases e:l=[]
   ·simp [e]
   ·have hw:=decodeL_width l;have hl:0<l.length:=Xaa.2 e;rw [Xc e,Xc e,ZjA n m _ (by rw [Xp];omega) (by rw [Xp];omega)]
theorem Ztj:runesL []=[]:=rfl
theorem Zk2 (l:Xu) (a:l≠[]):runesL l=((decodeL l).1:Int)::runesL (l.drop (decodeL l).2):=by
 have hl:0<l.length:=Xaa.2 a;have hw:=decodeL_width l;obtain ⟨n,b⟩:∃n,l.length=n+1:=⟨l.length - 1,by omega⟩;unfold runesL;rw [b,Zdg,Xc a,ZjA n (l.drop (decodeL l).2).length _ (by rw [Xp];omega) (Xa _)]
theorem Zfy (l:Xu):(runesL l).length<=l.length:=by
 suffices h:∀n l,(Zdg n l).length<=n from h _ _
 intro n
 induction n with
 | zero=>intro l;simp [Zdg]
 | succ n ih =>
   intro l;unfold Zdg
   split
   ·simp
   ·have:=ih (l.drop (decodeL l).2);simp;omega
def norm (r:Int):Int:=if r<0\/(55296<=r/\r<=57343)\/1114111<r then 65533 else r
def ZY (rs:List Int):Xu:=rs.flatMap encodeRune
theorem ZxH:ZY []=[]:=rfl
theorem ZjU (r:Int) (rs:List Int):ZY (r::rs)=encodeRune r++ZY rs:=rfl
theorem Zqt (a b:List Int):ZY (a++b)=ZY a++ZY b:=by simp [ZY]
theorem Zqu (rs:List Int):(ZY rs).length<=4*rs.length:=by
 induction rs with
 | nil=>simp [ZY]
 | cons r t ih =>
   have:=(encodeRuneZ_length r).2;have h2:(encodeRune r).length=(encodeRuneZ r).length:=by simp [encodeRune]
   rw [ZjU,Xd,Xh];omega
theorem Zon (r:Int):(0<=norm r/\norm r<55296)\/(57343<norm r/\norm r<=1114111):=by unfold norm;split<;>omega
theorem Zjl (r:Int) (h:(0<=r/\r<55296)\/(57343<r/\r<=1114111)):norm r=r:=by unfold norm;rw [Xc (by omega)]
theorem ZfF (r:Int):encodeRuneZ (norm r)=encodeRuneZ r:=by
 unfold norm
 split
 ·rename_i h;rw [encodeRuneZ_bad h];decide
 ·rfl
theorem Zqp (n b1:Nat) (r a b:Nat) (h0:128<=r) (h1:r<=2047) (hn:2<=n):decodeN n (192+r / 64) (128+r%64) a b=(r,2):=by
 unfold decodeN;rw [Xc (by omega),Xe (by omega),Xe (by omega)];congr 1
 omega
theorem Znm (n:Nat) (r a:Nat) (h:(2048<=r/\r<55296)\/(57343<r/\r<=65535)) (hn:3<=n):decodeN n (224+r / 4096) (128+r / 64%64) (128+r%64) a=(r,3):=by
 have e:(224+r / 4096)%16*4096+(128+r / 64%64)%64*64+(128+r%64)%64=r:=by omega
 unfold decodeN;rw [e,Xc (by omega),Xc (by omega),Xe (by omega),Xe (by omega)]
theorem Zpb (n:Nat) (r:Nat) (h0:65536<=r) (h1:r<=1114111) (hn:4<=n):decodeN n (240+r / 262144) (128+r / 4096%64) (128+r / 64%64) (128+r%64)=(r,4):=by
 have e:(240+r / 262144)%8*262144+(128+r / 4096%64)%64*4096+(128+r / 64%64)%64*64+(128+r%64)%64=r:=by omega
 unfold decodeN;rw [e,Xc (by omega),Xc (by omega),Xc (by omega),Xe (by omega),Xe (by omega)]
theorem byte_toNat (x:Int) (h0:0<=x) (h1:x<256):(x.toNat.toUInt8).toNat=x.toNat:=by
 simp;omega
theorem Zl0 (r:Int) (t:Xu):decodeL (encodeRune r++t)=((norm r).toNat,(encodeRune r).length):=by
 have a:∀q:Int,((0<=q/\q<55296)\/(57343<q/\q<=1114111))->decodeL (encodeRune q++t)=(q.toNat,(encodeRune q).length):=by
  intro q hq;rw [decodeL_N]
  by_cases c1:q<=127
  ·have e:encodeRune q=[q.toNat.toUInt8]:=by unfold encodeRune;rw [encodeRuneZ_one (by omega) c1];rfl
   rw [e];simp only [XK,XE,Xh,Xv,List.getD_cons_zero,List.getD_cons_succ];rw [byte_toNat q (by omega) (by omega),decodeN,Xe (by omega)]
  ·by_cases c2:q<=2047
   ·have e:encodeRune q=[(192+q / 64).toNat.toUInt8,(128+q%64).toNat.toUInt8]:=by unfold encodeRune;rw [encodeRuneZ_two (by omega) c2];rfl
    rw [e];simp only [XK,XE,Xh,Xv,List.getD_cons_zero,List.getD_cons_succ];rw [byte_toNat _ (by omega) (by omega),byte_toNat _ (by omega) (by omega)];rw [show (192+q / 64).toNat=192+q.toNat / 64 by omega,show (128+q%64).toNat=128+q.toNat%64 by omega];exact Zqp _ 0 _ _ _ (by omega) (by omega) (by omega)
   ·by_cases c3:q<=65535
    ·have e:encodeRune q=[(224+q / 4096).toNat.toUInt8,(128+q / 64%64).toNat.toUInt8,(128+q%64).toNat.toUInt8]:=by unfold encodeRune;rw [encodeRuneZ_three (by omega)];rfl
     rw [e];simp only [XK,XE,Xh,Xv,List.getD_cons_zero,List.getD_cons_succ];rw [byte_toNat _ (by omega) (by omega),byte_toNat _ (by omega) (by omega),byte_toNat _ (by omega) (by omega)];rw [show (224+q / 4096).toNat=224+q.toNat / 4096 by omega,show (128+q / 64%64).toNat=128+q.toNat / 64%64 by omega,show (128+q%64).toNat=128+q.toNat%64 by omega];exact Znm _ _ _ (by omega) (by omega)
    ·have e:encodeRune q=[(240+q / 262144).toNat.toUInt8,(128+q / 4096%64).toNat.toUInt8,(128+q / 64%64).toNat.toUInt8,(128+q%64).toNat.toUInt8]:=by unfold encodeRune;rw [encodeRuneZ_four (by omega) (by omega)];rfl
     rw [e];simp only [XK,XE,Xh,Xv,List.getD_cons_zero,List.getD_cons_succ];rw [byte_toNat _ (by omega) (by omega),byte_toNat _ (by omega) (by omega),byte_toNat _ (by omega) (by omega),byte_toNat _ (by omega) (by omega)];rw [show (240+q / 262144).toNat=240+q.toNat / 262144 by omega,show (128+q / 4096%64).toNat=128+q.toNat / 4096%64 by omega,show (128+q / 64%64).toNat=128+q.toNat / 64%64 by omega,show (128+q%64).toNat=128+q.toNat%64 by omega];exact Zpb _ _ (by omega) (by omega) (by omega)
 have e:encodeRune r=encodeRune (norm r):=by unfold encodeRune;rw [ZfF]
 rw [e];exact a (norm r) (Zon r)
theorem Zno (r:Int):encodeRune r≠[]:=by
 have:=(encodeRuneZ_length r).1;intro h;have a:(encodeRune r).length=(encodeRuneZ r).length:=by simp [encodeRune]
 rw [h] at a;simp at a;omega
theorem Zwe (rs:List Int):runesL (ZY rs)=rs.map norm:=by
 induction rs with
 | nil=>rfl
 | cons r t ih =>
   rw [ZjU,Zk2 _ (by simp [Zno]),Zl0];simp only [Xas,ih,XC];congr 1
   have:=Zon r;omega
theorem Zqq (l:Xu) (j:l≠[]):((decodeL l).1=65533/\(decodeL l).2=1)\/encodeRune ((decodeL l).1:Int)=l.take (decodeL l).2:=by
 have i:0<l.length:=Xaa.2 j
 have b:∀k,k<l.length->l.take (k+1)=l.take k++[l.getD k 0]:=by
  intro k p;rw [XG p];simp [List.getD,p]
 have a:∀(x:UInt8) (n:Nat),x.toNat=n->n.toUInt8=x:=by
  intro x n h;subst h;simp
 rw [decodeL_N];generalize g:l.getD 0 0=c;generalize o:l.getD 1 0=e;generalize q:l.getD 2 0=f;generalize r:l.getD 3 0=m;have y0:c.toNat<256:=c.toNat_lt;have y1:e.toNat<256:=e.toNat_lt;have y2:f.toNat<256:=f.toNat_lt;have y3:m.toNat<256:=m.toNat_lt;unfold decodeN
 by_cases c0:c.toNat<128
 ·right;rw [Xe c0]
  show encodeRune _=_
  unfold encodeRune;rw [encodeRuneZ_one (by omega) (by omega),b 0 i,g];simp
 ·rw [Xc c0]
  by_cases c1:c.toNat / 32=6/\(1<l.length/\e.toNat / 64=2)
  ·rw [Xe c1]
   by_cases d:c.toNat%32*64+e.toNat%64>=128
   ·right;rw [Xe d]
    show encodeRune _=_
    unfold encodeRune;rw [encodeRuneZ_two (by omega) (by omega),b 1 (by omega),b 0 i,g,o];simp only [XC,XN,XaK,XE,XK,XaV,and_true];exact ⟨a _ _ (by omega),a _ _ (by omega)⟩
   ·left;rw [Xc d];exact ⟨rfl,rfl⟩
  ·rw [Xc c1]
   by_cases c2:c.toNat / 16=14/\(1<l.length/\e.toNat / 64=2)/\(2<l.length/\f.toNat / 64=2)
   ·rw [Xe c2]
    split
    ·right
     show encodeRune _=_
     unfold encodeRune;rw [encodeRuneZ_three (by omega),b 2 (by omega),b 1 (by omega),b 0 i,g,o,q];simp only [XC,XN,XaK,XE,XK,XaV,and_true];exact ⟨a _ _ (by omega),a _ _ (by omega),a _ _ (by omega)⟩
    ·left;exact ⟨rfl,rfl⟩
   ·rw [Xc c2]
    by_cases c3:c.toNat / 8=30/\(1<l.length/\e.toNat / 64=2)/\(2<l.length/\f.toNat / 64=2)/\(3<l.length/\m.toNat / 64=2)
    ·rw [Xe c3]
     split
     ·right
      show encodeRune _=_
      unfold encodeRune;rw [encodeRuneZ_four (by omega) (by omega),b 3 (by omega),b 2 (by omega),b 1 (by omega),b 0 i,g,o,q,r];simp only [XC,XN,XaK,XE,XK,XaV,and_true];exact ⟨a _ _ (by omega),a _ _ (by omega),a _ _ (by omega),a _ _ (by omega)⟩
     ·left;exact ⟨rfl,rfl⟩
    ·rw [Xc c3];left;exact ⟨rfl,rfl⟩
def ZQ (r:Int):Int :=
 if (65<=r/\r<=90)\/(192<=r/\r<=222/\r≠215)\/(913<=r/\r<=939/\r≠930)\/(1040<=r/\r<=1071) then r+32
 else if 1024<=r/\r<=1039 then r+80 else r
def ZU (r:Int):Bool :=
 decide ((48<=r/\r<=57)\/(65<=r/\r<=90)\/(97<=r/\r<=122)\/(192<=r/\r<=255/\r≠215/\r≠247)\/(913<=r/\r<=974/\r≠930)\/(1024<=r/\r<=1119))
theorem ZqZ (r:Int):ZQ (ZQ r)=ZQ r:=by unfold ZQ;repeat' split;all_goals omega
end UM
namespace TK
open Go.Lib UM
variable {p zs:List Int} {r:Int}
def Zfu (r:Int):Xu:=encodeRune (ZQ r)
def ZeI:Nat->List Int->Xu
 | _,[]=>[]
 | m,r::t=>if (Zfu r).length<=m then Zfu r++ZeI (m - (Zfu r).length) t else []
def Zfs (row:List Int):Xu:=ZeI 32 row
def Zdk (row:List Int):Xu:=ZY (row.map ZQ)
theorem ZeS:Zdk []=[]:=rfl
theorem Zex (r:Int) (t:List Int):Zdk (r::t)=Zfu r++Zdk t:=rfl
theorem ZAD (r:Int):1<=(encodeRune r).length/\(encodeRune r).length<=4:=by
 have:=encodeRuneZ_length r;have h2:(encodeRune r).length=(encodeRuneZ r).length:=by simp [encodeRune]
 omega
theorem Zjh (r:Int):1<=(Zfu r).length/\(Zfu r).length<=4:=ZAD _
theorem Zyw (l:List Int):l.length<=(Zdk l).length/\(Zdk l).length<=4*l.length:=by
 induction l with
 | nil=>simp [Zdk,ZY]
 | cons r t ih =>
   have:=Zjh r;rw [Zex,Xd,Xh];omega
theorem ZlY:∀(l:List Int) (m n:Nat),n<=l.length->(Zdk (l.take n)).length<=m->(n=l.length\/m<(Zdk (l.take (n+1))).length)->ZeI m l=Zdk (l.take n)
 | [],m,n,h,_,_=>by simp [ZeI,Zdk,ZY]
 | r::t,m,0,h,h1,a=>by
   have:=Zjh r;rcases a with a|a
   ·simp at a
   ·simp [Zex,ZeS] at a;rw [ZeI,Xc (by omega)];simp [ZeS]
 | r::t,m,n+1,h,h1,a=>by
   simp [Zex] at h1 a h;rw [ZeI,Xe (by omega),XaC,Zex,ZlY t (m - (Zfu r).length) n h (by omega) (by omega)]
theorem ZnO (l:List Int) (n:Nat) (h:n<=l.length) (a:(Zdk (l.take n)).length<=32) (b:n=l.length\/32<(Zdk (l.take (n+1))).length):Zfs l=Zdk (l.take n) :=
 ZlY l 32 n h a b
theorem ZlX:∀(l:List Int) (m:Nat),∃n,n<=l.length/\ZeI m l=Zdk (l.take n)/\(Zdk (l.take n)).length<=m/\(4<=m->l≠[]->1<=n)
 | [],m=>⟨0,by simp,by simp [ZeI,ZeS],by simp [ZeS],fun _ h=>absurd rfl h⟩
 | r::t,m=>by
   have h4:=Zjh r
   by_cases a:(Zfu r).length<=m
   ·obtain ⟨n,h0,b,h2,_⟩:=ZlX t (m - (Zfu r).length);refine ⟨n+1,by simp;omega,?_,?_,fun _ _=>by omega⟩
    ·rw [ZeI,Xe a,b,XaC,Zex]
    ·rw [XaC,Zex,Xd];omega
   ·refine ⟨0,by simp,?_,by simp [ZeS],fun h=>by omega⟩;rw [ZeI,Xc a];simp [ZeS]
theorem ZuY (l:List Int):∃n,n<=l.length/\Zfs l=Zdk (l.take n)/\(Zdk (l.take n)).length<=32/\(l≠[]->1<=n):=by
 obtain ⟨n,b,a,d,c⟩:=ZlX l 32;exact ⟨n,b,a,d,c (by omega)⟩
def one (l:List Int):List (List Int):=if l=[] then [] else [l]
def Zcz:List Int->List Int->List (List Int)
 | acc,[]=>one acc
 | acc,r::t=>if ZU r=true then Zcz (acc++[r]) t else one acc++Zcz [] t
def Zjz (l:List Int):List (List Int):=Zcz [] l
def Zbl (l:List Int):List Xu:=(Zjz l).map Zfs
def Z4 (b:Xu):List Xu:=Zbl (runesL b)
theorem Zps:one []=[]:=rfl
theorem Zpr {l:List Int} (h:l≠[]):one l=[l]:=by simp [one,h]
theorem Zhp:∀(p a t:List Int),(∀r∈p,ZU r=true)->Zcz a (p++t)=Zcz (a++p) t
 | [],a,t,_=>by simp
 | r::p,a,t,h=>by
   rw [XK,Zcz,Xe (h r (by simp)),Zhp p _ t (fun x b=>h x (by simp [b])),Xk];rfl
theorem Zkl (h:∀r∈p,ZU r=true):Zjz p=one p:=by
 have:=Zhp p [] [] h;rw [XH] at this;rw [Zjz,this,XE];rfl
theorem ZiL {t:List Int} (h:∀r∈p,ZU r=true) (a:ZU r=false):Zjz (p++r::t)=one p++Zjz t:=by
 rw [Zjz,Zhp p [] _ h,XE,Zcz,Xc (by simp [a])];rfl
theorem Zgu:∀(l b:List Int),(∀r∈b,ZU r=true)->∀p∈Zcz b l,p≠[]/\∀r∈p,ZU r=true
 | [],b,h,p,a=>by
   unfold Zcz one at a
   split at a
   ·simp at a
   ·simp at a;subst a;exact ⟨by assumption,h⟩
 | r::t,b,h,p,a=>by
   unfold Zcz at a
   split at a
   ·rename_i d;exact Zgu t _ (fun x c=>by simp at c;rcases c with c|c;exact h x c;subst c;exact d) p a
   ·rw [Xam] at a;rcases a with a|a
    ·unfold one at a
     split at a
     ·simp at a
     ·simp at a;subst a;exact ⟨by assumption,h⟩
    ·exact Zgu t [] (by simp) p a
theorem Ztc (l:List Int):∀p∈Zjz l,p≠[]/\∀r∈p,ZU r=true:=Zgu l [] (by simp)
theorem Zfx:∀(l a:List Int),(Zcz a l).length<=a.length+l.length
 | [],a=>by
   unfold Zcz one
   split
   ·simp
   ·rename_i h;have:=Xaa.2 h;simp;omega
 | r::t,a=>by
   unfold Zcz
   split
   ·have:=Zfx t (a++[r]);simp at this;simp;omega
   ·have:=Zfx t []
    have h1:(one a).length<=a.length:=by
     unfold one
     split
     ·simp
     ·rename_i h;have:=Xaa.2 h;simp;omega
    simp at this;simp;omega
theorem ZpN (l:List Int):(Zbl l).length<=l.length:=by
 have:=Zfx l [];simp at this;unfold Zbl Zjz;rw [XF];exact this
theorem Zag (b:Xu):(Z4 b).length<=b.length:=Xy (ZpN _) (Zfy b)
theorem ZrU (r:Int):ZU (ZQ r)=ZU r:=by
 unfold ZU ZQ;repeat' split
 all_goals first|rfl|(congr 1;simp;omega)
theorem ZvM (h:ZU r=true):norm r=r:=by
 unfold ZU at h;simp at h;exact Zjl r (by omega)
def Good (zs:List Int):Prop:=zs≠[]/\(∀z∈zs,ZU z=true)/\(∀z∈zs,ZQ z=z)/\(ZY zs).length<=32
theorem Good.norm (h:Good zs):zs.map norm=zs:=by
 have:∀z∈zs,UM.norm z=z:=fun z a=>ZvM (h.2.1 z a);rw [List.map_congr_left this,List.map_id''];intro;rfl
theorem Good.low (h:Good zs):Zdk zs=ZY zs:=by
 have:∀z∈zs,ZQ z=id z:=h.2.2.1;unfold Zdk;rw [List.map_congr_left this,List.map_id]
theorem Good.cut (h:Good zs):Zfs zs=ZY zs:=by
 rw [ZnO zs zs.length (Xa _) (by rw [XB,h.low];exact h.2.2.2) (.inl rfl),XB,h.low]
theorem Good.self (h:Good zs):Z4 (ZY zs)=[ZY zs]:=by
 unfold Z4 Zbl;rw [Zwe,h.norm,Zkl h.2.1,Zpr h.1,Xbu,h.cut]
theorem ZqI (a:p≠[]) (h:∀r∈p,ZU r=true):∃zs,Good zs/\Zfs p=ZY zs:=by
 obtain ⟨n,hn,g,i,e⟩:=ZuY p;refine ⟨(p.take n).map ZQ,⟨?_,?_,?_,i⟩,g⟩
 ·have:=e a;have hp:=Xaa.2 a;intro d;have f:=Xr List.length d;rw [XF,Xi,Xv] at f;omega
 ·intro z b;obtain ⟨r,c,rfl⟩:=X4.1 b;rw [ZrU];exact h r (Xaq c)
 ·intro z b;obtain ⟨r,c,rfl⟩:=X4.1 b;exact ZqZ r
theorem ZtC (l:List Int):∃Z:List (List Int),Zbl l=Z.map ZY/\∀zs∈Z,Good zs:=by
 unfold Zbl;have b:=Ztc l;generalize Zjz l=P at b
 induction P with
 | nil=>exact ⟨[],rfl,by simp⟩
 | cons p P ih =>
   obtain ⟨Z,f,d⟩:=ih (fun q a=>b q (by simp [a]));obtain ⟨zs,c,e⟩:=ZqI (b p (by simp)).1 (b p (by simp)).2;exact ⟨zs::Z,by rw [XC,XC,f,e],fun q a=>by simp at a;rcases a with rfl|a;exact c;exact d q a⟩
theorem ZhZ (l:Xu):∀x∈Z4 l,Z4 x=[x]/\x.length<=32:=by
 intro x a;obtain ⟨Z,d,c⟩:=ZtC (runesL l);unfold Z4 at a;rw [d] at a;obtain ⟨zs,b,rfl⟩:=X4.1 a;exact ⟨(c zs b).self,(c zs b).2.2.2⟩
def Zbe (c:UInt8):Bool:=decide ((97<=c.toNat/\c.toNat<=122)\/(48<=c.toNat/\c.toNat<=57)\/c.toNat=95)
def Zbt (l:Xu):Bool:=decide (1<=l.length/\l.length<=32)&&l.all Zbe
def ZaP (r:Int):Bool:=decide ((97<=r/\r<=122)\/(48<=r/\r<=57)\/r=95)
end TK
namespace EM
open VM
open TK (Zbt)
variable {k:Nat} {l r:Xu}
abbrev Fld:=Xu×Xu
abbrev Ev:=Int×List Fld
def Zd9:List Fld->Int
 | []=>0
 | f::r=>if Zbt f.1=false then 100 else if 4096<f.2.length then 2 else Zd9 r
def ZH (e:Ev):Int:=if 16<e.2.length then 3 else Zd9 e.2
theorem ZkC {fs:List Fld} (a:k<fs.length):Zd9 (fs.drop k)=if Zbt fs[k].1=false then 100 else if 4096<fs[k].2.length then 2 else Zd9 (fs.drop (k+1)):=by
 rw [X7 a,Zd9]
theorem ZjO:∀{fs:List Fld},Zd9 fs=0↔∀f∈fs,Zbt f.1=true/\f.2.length<=4096
 | []=>by simp [Zd9]
 | f::r=>by
   rw [Zd9];have ih:=@ZjO r;constructor
   ·intro h
    split at h
    ·omega
    ·split at h
     ·omega
     ·rename_i b c;intro g a;rcases XT.1 a with rfl|a
      ·exact ⟨by simpa using b,by omega⟩
      ·exact ih.1 h g a
   ·intro h;obtain ⟨b,c⟩:=h f (by simp);rw [Xc (by simp [b]),Xc (by omega)];exact ih.2 fun g a=>h g (by simp [a])
theorem ZaK {e:Ev}:ZH e=0↔e.2.length<=16/\∀f∈e.2,Zbt f.1=true/\f.2.length<=4096:=by
 unfold ZH;constructor
 ·intro h
  split at h
  ·omega
  ·exact ⟨by omega,ZjO.1 h⟩
 ·intro h;rw [Xc (by omega)];exact ZjO.2 h.2
theorem Zda {n:Xu} (h:Zbt n=true):n.length<=32:=by
 unfold TK.Zbt at h;simp at h;omega
def Zap (fs:List Fld):Nat:=(fs.map fun f=>f.1.length+f.2.length).sum
theorem Ztp {fs:List Fld} (a:k<fs.length):Zap (fs.take (k+1))=Zap (fs.take k)+fs[k].1.length+fs[k].2.length:=by
 unfold Zap;rw [XG a,XM,List.sum_append];simp;omega
theorem Zd4:∀{fs:List Fld},(∀f∈fs,Zbt f.1=true/\f.2.length<=4096)->Zap fs<=4128*fs.length
 | [],_=>by simp [Zap]
 | f::r,h=>by
   have a:=h f (by simp);have h2:=Zda a.1;have ih:=Zd4 (fs:=r) fun g b=>h g (by simp [b]);have e:Zap (f::r)=f.1.length+f.2.length+Zap r:=by simp [Zap]
   rw [e,Xh];omega
def ZJ (fs:List Fld):Xu:=fs.flatMap fun f=>Z5 f.1++Z5 f.2
theorem Zc0 (f:Fld) (r:List Fld):ZJ (f::r)=Z5 f.1++(Z5 f.2++ZJ r):=by simp [ZJ]
theorem ZkA {fs:List Fld} (a:k<fs.length):ZJ (fs.take (k+1))=ZJ (fs.take k)++(Z5 fs[k].1++Z5 fs[k].2):=by
 unfold ZJ;rw [XG a,XaQ];simp
def Z0 (e:Ev):Xu:=ZaV e.1++Zb e.2.length++ZJ e.2
theorem ZdM (s:Xu):(Z5 s).length<=10+s.length/\1<=(Z5 s).length:=by
 unfold Z5;rw [Xd];have:=Zc s.length;omega
theorem Zim:∀fs:List Fld,(ZJ fs).length<=20*fs.length+Zap fs
 | []=>by simp [ZJ]
 | f::r=>by
   rw [Zc0,Xd,Xd,Xh];have h1:=(ZdM f.1).1;have h2:=(ZdM f.2).1;have h3:=Zim r;have e:Zap (f::r)=f.1.length+f.2.length+Zap r:=by simp [Zap]
   omega
theorem Zcd (e:Ev):(Z0 e).length<=20+20*e.2.length+Zap e.2/\1<=(Z0 e).length:=by
 unfold Z0;rw [Xd,Xd];have h1:=Zc (zig e.1);have h2:=Zc e.2.length;have h3:=Zim e.2;unfold ZaV;omega
def ZdT:Nat->List Fld->Xu->Option (List Fld×Xu)
 | 0,acc,l=>some (acc,l)
 | k+1,acc,l =>
   if (Zah l 32).2.2≠0\/(Zah (l.drop (Zah l 32).2.1) 4096).2.2≠0 then none
   else ZdT k (acc++[((Zah l 32).1,(Zah (l.drop (Zah l 32).2.1) 4096).1)]) ((l.drop (Zah l 32).2.1).drop (Zah (l.drop (Zah l 32).2.1) 4096).2.1)
def rdE (l:Xu):Option (Ev×Xu) :=
 if (Za8 l).2.2≠0 then none
 else if (Zs (l.drop (Za8 l).2.1)).2.2≠0\/16<(Zs (l.drop (Za8 l).2.1)).1 then none
 else match ZdT (Zs (l.drop (Za8 l).2.1)).1 [] ((l.drop (Za8 l).2.1).drop (Zs (l.drop (Za8 l).2.1)).2.1) with
  | none=>none
  | some (fs,r)=>some (((Za8 l).1,fs),r)
def ZfK (l:Xu):Option (Ev×Xu) :=
 match rdE l with
 | none=>none
 | some (e,r)=>if ZH e=0 then some (e,r) else none
theorem Zew {s:Xu} {m:Int} (h:Zah l m=(s,k,0)):Z5 s++l.drop k=l/\(s.length:Int)<=max 0 m/\k<=l.length:=by
 unfold Zah at h
 split at h
 ·rename_i a;have:=Xr (fun x=>x.2.2) h;simp at this;exact absurd this a
 ·split at h
  ·simp at h
  ·split at h
   ·simp at h
   ·rename_i a h2 h3;simp only [X9,and_true] at h;obtain ⟨hs,d⟩:=h;have g:(Zs l).2.2=0:=by simpa using a
    have f:=ZdC (l:=l) (n:=(Zs l).1) (k:=(Zs l).2.1) (by rw [<- g]);have c:=(Zba l).2.1;have b:s.length=(Zs l).1:=by rw [<- hs,Xi,Xp];omega
    refine ⟨?_,by rw [b];omega,by omega⟩;unfold Z5;rw [b,<- d,Xk]
    have e:s++l.drop ((Zs l).2.1+(Zs l).1)=l.drop (Zs l).2.1:=by
     rw [<- hs,<- XaI,X8]
    rw [e];exact f
theorem Zof:∀(fs a:List Fld) (r:Xu),(∀f∈fs,f.1.length<=32/\f.2.length<=4096)->ZdT fs.length a (ZJ fs++r)=some (a++fs,r)
 | [],a,r,_=>by simp [ZdT,ZJ]
 | f::fs,a,r,h=>by
   obtain ⟨h1,h2⟩:=h f (by simp);rw [Xh,ZdT,Zc0,Xk,Xk,Zjb f.1 (by omega) 32 (by omega)];dsimp only;rw [Xas,Zjb f.2 (by omega) 4096 (by omega)];dsimp only;rw [Xas,Xc (by simp)];rw [Zof fs (a++[(f.1,f.2)]) r fun g b=>h g (by simp [b])];simp
theorem Zmf:∀(k:Nat) (b:List Fld) (l:Xu) (fs:List Fld) (r:Xu),ZdT k b l=some (fs,r) ->
  ∃c,fs=b++c/\c.length=k/\ZJ c++r=l/\∀f∈c,f.1.length<=32/\f.2.length<=4096
 | 0,b,l,fs,r,h=>by
   simp only [ZdT,Xx,X9] at h;exact ⟨[],by simp [h.1],rfl,by simp [ZJ,h.2],by simp⟩
 | k+1,b,l,fs,r,h=>by
   rw [ZdT] at h
   split at h
   ·cases h
   ·rename_i a;obtain ⟨s,e,d,hs⟩:∃s e d,Zah l 32=(s,e,d):=⟨_,_,_,rfl⟩;rw [hs] at h a;dsimp only at h a;obtain ⟨t,j,g,i⟩:∃t j g,Zah (l.drop e) 4096=(t,j,g):=⟨_,_,_,rfl⟩;rw [i] at h a;dsimp only at h a;obtain ⟨rfl,rfl⟩:d=0/\g=0:=by constructor<;>(apply Xaz;intro q;exact a (by simp [q]))
    obtain ⟨n,b2,_⟩:=Zew hs;obtain ⟨c1,c2,_⟩:=Zew i;obtain ⟨c,p,m,u,o⟩:=Zmf k _ _ _ _ h;refine ⟨(s,t)::c,by rw [p];simp,by simp [m],?_,?_⟩
    ·rw [Zc0,Xk,Xk,u];dsimp only;rw [c1,n]
    ·intro f hf;rcases XT.1 hf with rfl|hf
     ·exact ⟨by show s.length<=32;omega,by show t.length<=4096;omega⟩
     ·exact o f hf
def ZiS (e:Ev):Prop := -9223372036854775808<=e.1/\e.1<=9223372036854775807
theorem ZBH {e:Ev} (hf:ZiS e) (hn:e.2.length<=16) (h:∀f∈e.2,f.1.length<=32/\f.2.length<=4096) (r:Xu):rdE (Z0 e++r)=some (e,r):=by
 unfold rdE Z0;rw [Xk,Xk,Zx7 e.1 hf.1 hf.2];dsimp only;rw [Xas,ZdU _ (by omega)];dsimp only;rw [Xas,Xc (by simp),Xc (by simp;omega),Zof e.2 [] r h];simp
theorem Zlk {e:Ev} (h:ZH e=0):e.2.length<=16/\∀f∈e.2,f.1.length<=32/\f.2.length<=4096:=by
 obtain ⟨b,a⟩:=ZaK.1 h;exact ⟨b,fun f hf=>⟨Zda (a f hf).1,(a f hf).2⟩⟩
theorem Zg3 {e:Ev} (hf:ZiS e) (h:ZH e=0) (r:Xu):ZfK (Z0 e++r)=some (e,r):=by
 obtain ⟨a,b⟩:=Zlk h;unfold ZfK;rw [ZBH hf a b];simp [h]
theorem Zrq {e:Ev} (h:rdE l=some (e,r)):Z0 e++r=l/\ZiS e/\e.2.length<=16:=by
 unfold rdE at h
 split at h
 ·cases h
 ·split at h
  ·cases h
  ·rename_i z d;have a:(Za8 l).2.2=0:=by simpa using z
   obtain ⟨n,c,v,b⟩:∃n c v,Za8 l=(n,c,v):=⟨_,_,_,rfl⟩;rw [b] at h d a;dsimp only at h d a;subst a;obtain ⟨m,q,s,t⟩:∃m q s,Zs (l.drop c)=(m,q,s):=⟨_,_,_,rfl⟩;rw [t] at h d;dsimp only at h d;have j:s=0/\m<=16:=by constructor<;>(apply Xaz;intro A;exact d (by first|exact .inl A|exact .inr (by omega)))
   obtain ⟨rfl,hm⟩:=j;cases hg:ZdT m [] ((l.drop c).drop q) with
   | none=>rw [hg] at h;cases h
   | some p =>
     obtain ⟨fs,r2⟩:=p;rw [hg] at h;simp only [Xx,X9] at h;obtain ⟨rfl,rfl⟩:=h;obtain ⟨gs,w,x,B,g4⟩:=Zmf _ _ _ _ _ hg;rw [XE] at w;subst w
     have o:ZaV n++l.drop c=l:=by
      unfold Za8 at b;simp only [X9] at b;have y:=ZdC (l:=l) (n:=(Zs l).1) (k:=c) (by rw [<- b.2.1,<- b.2.2])
      have i:zig n=(Zs l).1:=by
       rw [<- b.1];generalize (Zs l).1=u;unfold zig zag
       split<;>split<;>omega
      unfold ZaV;rw [i];exact y
     have g:=ZdC t;refine ⟨?_,?_,by show fs.length<=16;omega⟩
     ·unfold Z0;dsimp only;rw [Xk,Xk,B,x,g,o]
     ·have f:=(ZqF l).1;rw [b] at f;exact f
theorem ZdB {e:Ev} (h:ZfK l=some (e,r)):Z0 e++r=l/\ZiS e/\ZH e=0:=by
 unfold ZfK at h;cases hr:rdE l with
 | none=>rw [hr] at h;cases h
 | some p =>
   obtain ⟨e',r'⟩:=p;rw [hr] at h;dsimp only at h
   split at h
   ·simp only [Xx,X9] at h;obtain ⟨rfl,rfl⟩:=h;exact ⟨(Zrq hr).1,(Zrq hr).2.1,by assumption⟩
   ·cases h
end EM
namespace EM
open TK (Z4)
variable {x y:Xu} {i k:Nat}
def Zg:Xu->Xu->Bool
 | [],[]=>false
 | [],_::_=>true
 | _::_,[]=>false
 | a::x,b::y=>if a=b then Zg x y else decide (a.toNat<b.toNat)
theorem Zbc:∀x,Zg x x=false
 | []=>rfl
 | a::x=>by rw [Zg,Xe rfl,Zbc x]
theorem Zaq:∀{x y z},Zg x y=true->Zg y z=true->Zg x z=true
 | [],[],_,h,_=>by simp [Zg] at h
 | [],_::_,[],_,h=>by simp [Zg] at h
 | [],_::_,_::_,_,_=>rfl
 | _::_,[],_,h,_=>by simp [Zg] at h
 | _::_,_::_,[],_,h=>by simp [Zg] at h
 | a::x,b::y,c::z,h1,h2=>by
   rw [Zg] at h1 h2 ⊢
   by_cases e:a=b
   ·subst e;rw [Xe rfl] at h1
    by_cases d:a=c
    ·subst d;rw [Xe rfl] at h2 ⊢;exact Zaq h1 h2
    ·rw [Xc d] at h2 ⊢;exact h2
   ·rw [Xc e] at h1;have f:=of_decide_eq_true h1
    by_cases d:b=c
    ·subst d;rw [Xc e];exact h1
    ·rw [Xc d] at h2;have g:=of_decide_eq_true h2;have j:a≠c:=by rintro rfl;omega
     rw [Xc j];exact Xs (by omega)
theorem ZaC:∀{x y},Zg x y=false->x≠y->Zg y x=true
 | [],[],_,h=>absurd rfl h
 | [],_::_,h,_=>by simp [Zg] at h
 | _::_,[],_,_=>rfl
 | a::x,b::y,h,hn=>by
   rw [Zg] at h ⊢
   by_cases e:a=b
   ·subst e;rw [Xe rfl] at h ⊢;exact ZaC h (fun c=>hn (by rw [c]))
   ·rw [Xc e] at h;rw [Xc (fun c=>e c.symm)];have h':=of_decide_eq_false h;have:a.toNat≠b.toNat:=fun c=>e (XaT.1 c);exact Xs (by omega)
theorem Zbd (h:Zg x y=true):x≠y:=by rintro rfl;rw [Zbc] at h;cases h
theorem Zmw (h:Zg x y=true):Zg y x=false:=by
 cases hh:Zg y x with
 | false=>rfl
 | true=>have:=Zaq h hh;rw [Zbc] at this;cases this
theorem Zan:∀x y,Op.bytesLess x y=Zg x y
 | [],[]=>by simp [Op.bytesLess,Zg]
 | [],_::_=>by simp [Op.bytesLess,Zg]
 | _::_,[]=>by simp [Op.bytesLess,Zg]
 | a::x,b::y=>by
   rw [Op.bytesLess,Zg,Zan x y]
   by_cases e:a=b
   ·subst e;simp
   ·have:a.toNat≠b.toNat:=fun c=>e (XaT.1 c);simp [e,UInt8.lt_iff_toNat_lt]
theorem ZsO (a:i<x.length) (b:i<y.length):Zg (x.drop i) (y.drop i)=if x[i]=y[i] then Zg (x.drop (i+1)) (y.drop (i+1)) else decide (x[i].toNat<y[i].toNat):=by
 rw [X7 a,X7 b,Zg]
theorem ZvA (h:x.length<=i\/y.length<=i) (hi:i<=x.length) (hj:i<=y.length):Zg (x.drop i) (y.drop i)=decide (x.length<y.length):=by
 rcases h with h|h
 ·rw [Xao h];cases hd:y.drop i with
  | nil =>
    have:=Xr List.length hd;rw [Xp] at this;simp at this;rw [Zg];exact (Xz (by omega)).symm
  | cons c r =>
    have:=Xr List.length hd;rw [Xp] at this;simp at this;rw [Zg];exact (Xs (by omega)).symm
 ·rw [Xao (l:=y) h];cases hd:x.drop i with
  | nil =>
    have:=Xr List.length hd;rw [Xp] at this;simp at this;rw [Zg];exact (Xz (by omega)).symm
  | cons c r =>
    rw [Zg];exact (Xz (by omega)).symm
abbrev Tr (α:Type):=Xu×List α
abbrev Trm:=Tr Int
variable {α : Type}
def Zak:List (Tr α)->Xu->α->List (Tr α)
 | [],s,p=>[(s,[p])]
 | t::r,s,p=>if Zg t.1 s=true then t::Zak r s p else if t.1=s then (s,t.2++[p])::r else (s,[p])::t::r
theorem ZiY:∀{l:List (Tr α)} {s:Xu} {k:Nat} (p:α) (a:k<l.length),(∀j (c:j<l.length),j<k->Zg l[j].1 s=true)->l[k].1=s ->
  Zak l s p=l.take k++(s,l[k].2++[p])::l.drop (k+1)
 | [],s,k,p,a,_,_=>by simp at a
 | t::r,s,0,p,_,_,h=>by
   simp only [Xbd] at h;rw [Zak,Xc (by rw [h,Zbc];exact Xbo),Xe h];simp
 | t::r,s,k+1,p,a,h1,h2=>by
   have b:=h1 0 (by simp) (by omega);simp only [Xbd] at b;rw [Zak,Xe b,ZiY (l:=r) (s:=s) (k:=k) p (by simpa using a) (fun j c d=>h1 (j+1) (XaH c) (by omega)) (by simpa using h2)];simp
theorem Zep:∀{l:List (Tr α)} {s:Xu} {k:Nat} (p:α),k<=l.length->(∀j (d:j<l.length),j<k->Zg l[j].1 s=true)->(∀a:k<l.length,Zg l[k].1 s=false/\l[k].1≠s) ->
  Zak l s p=l.take k++(s,[p])::l.drop k
 | [],s,k,p,a,_,_=>by
   have:k=0:=by simpa using a
   subst this;simp [Zak]
 | t::r,s,0,p,_,_,h=>by
   have b:=h (by simp);simp only [Xbd] at b;rw [Zak,Xc (by rw [b.1];exact Xbo),Xc b.2];simp
 | t::r,s,k+1,p,a,h1,h2=>by
   have c:=h1 0 (by simp) (by omega);simp only [Xbd] at c;rw [Zak,Xe c,Zep (l:=r) (s:=s) (k:=k) p (by simpa using a) (fun j d e=>h1 (j+1) (XaH d) (by omega)) (fun a=>h2 (XaH a))];simp
def Zz (l:List (Tr α)) (qs:List (Xu×α)):List (Tr α):=qs.foldl (fun l q=>Zak l q.1 q.2) l
theorem ZaT (l:List (Tr α)) (a b:List (Xu×α)):Zz l (a++b)=Zz (Zz l a) b:=by simp [Zz]
theorem Zvi (l:List (Tr α)) (s:Xu) (p:α):Zz l [(s,p)]=Zak l s p:=rfl
def Zac (n:Xu) (a:List Xu) (base:Int):List (Xu×Int):=a.zipIdx.map fun p=>(n++58::p.1,base+(p.2:Int))
theorem ZkS (n:Xu) {a:List Xu} (b:k<a.length) (base:Int):Zac n (a.take (k+1)) base=Zac n (a.take k) base++[(n++58::a[k],base+(k:Int))]:=by
 unfold Zac;rw [XG b,List.zipIdx_append,XM];simp [Xan (Xal b)]
def ZM:Int->List Fld->List (Xu×Int)
 | _,[]=>[]
 | base,f::r=>Zac f.1 (Z4 f.2) base++ZM (base+((Z4 f.2).length:Int)+64) r
def ZaO (fs:List Fld):Int:=(fs.map fun f=>((Z4 f.2).length:Int)+64).sum
theorem ZfZ {fs:List Fld} (a:k<fs.length):ZaO (fs.take (k+1))=ZaO (fs.take k)+((Z4 fs[k].2).length:Int)+64:=by
 unfold ZaO;rw [XG a,XM,List.sum_append];simp;omega
theorem Zh8:∀(a b:List Fld) (base:Int),ZM base (a++b)=ZM base a++ZM (base+ZaO a) b
 | [],b,base=>by simp [ZM,ZaO]
 | f::a,b,base=>by
   rw [XK,ZM,ZM,Zh8 a b,Xk];congr 3
   simp [ZaO];omega
theorem ZkQ {fs:List Fld} (a:k<fs.length):ZM 0 (fs.take (k+1))=ZM 0 (fs.take k)++Zac fs[k].1 (Z4 fs[k].2) (ZaO (fs.take k)):=by
 rw [XG a,Zh8,ZM,ZM,XH,Int.zero_add]
def Zb6 (fs:List Fld):List Trm:=Zz [] (ZM 0 fs)
def Z1 (e:Ev):List Trm:=if ZH e≠0 then [] else Zb6 e.2
def ZX (l:List (Tr α)):Prop:=l.Pairwise fun a b=>Zg a.1 b.1=true
theorem ZiZ:∀{l:List (Tr α)} {s:Xu} {p:α} {t:Tr α},t∈Zak l s p->t.1=s\/∃u∈l,u.1=t.1
 | [],s,p,t,h=>by simp [Zak] at h;exact .inl (by rw [h])
 | u::r,s,p,t,h=>by
   rw [Zak] at h
   split at h
   ·rcases XT.1 h with rfl|h
    ·exact .inr ⟨t,by simp,rfl⟩
    ·rcases ZiZ h with h|⟨v,b,a⟩
     ·exact .inl h
     ·exact .inr ⟨v,by simp [b],a⟩
   ·split at h
    ·rcases XT.1 h with rfl|h
     ·exact .inl rfl
     ·exact .inr ⟨t,by simp [h],rfl⟩
    ·rcases XT.1 h with rfl|h
     ·exact .inl rfl
     ·exact .inr ⟨t,by simpa using h,rfl⟩
theorem ZdS:∀{l:List (Tr α)} (s:Xu) (p:α),ZX l->ZX (Zak l s p)
 | [],s,p,_=>by simp [Zak,ZX]
 | t::r,s,p,h=>by
   unfold ZX at h ⊢;rw [Zak];rw [XaA] at h
   split
   ·rename_i d;rw [XaA];refine ⟨fun u a => ?_,ZdS s p h.2⟩;rcases ZiZ a with a|⟨v,f,e⟩
    ·rw [a];exact d
    ·rw [<- e];exact h.1 v f
   ·split
    ·rename_i c b;rw [XaA];exact ⟨fun u a=>by rw [<- b];exact h.1 u a,h.2⟩
    ·rename_i c b;have hs:Zg s t.1=true:=ZaC (by simpa using c) b;rw [XaA,XaA];refine ⟨fun u a => ?_,h.1,h.2⟩;rcases XT.1 a with rfl|a
     ·exact hs
     ·exact Zaq hs (h.1 u a)
theorem Zek:∀(qs:List (Xu×α)) {l:List (Tr α)},ZX l->ZX (Zz l qs)
 | [],_,h=>h
 | q::qs,l,h=>Zek qs (ZdS q.1 q.2 h)
def Zm:List (Tr α)->Xu->List α
 | [],_=>[]
 | t::r,s=>if t.1=s then t.2 else Zm r s
theorem Zbf:∀{l:List (Tr α)} {s:Xu},(∀t∈l,t.1≠s)->Zm l s=[]
 | [],_,_=>rfl
 | t::r,s,h=>by
   rw [Zm,Xc (h t (by simp))];exact Zbf fun u a=>h u (by simp [a])
theorem ZeA:∀{l:List (Tr α)} (s:Xu) (p:α) (x:Xu),ZX l->Zm (Zak l s p) x=if x=s then Zm l s++[p] else Zm l x
 | [],s,p,x,_=>by
   simp only [Zak,Zm]
   by_cases h:s=x
   ·subst h;simp
   ·rw [Xc h,Xc (fun e=>h e.symm)]
 | t::r,s,p,x,h=>by
   unfold ZX at h;rw [XaA] at h;rw [Zak]
   split
   ·rename_i g;have b:=Zbd g;rw [Zm,ZeA s p x h.2]
    by_cases a:x=s
    ·subst a;rw [Xc b,Xe rfl,Xe rfl,Zm,Xc b]
    ·rw [Xc a,Xc a,Zm]
   ·split
    ·rename_i f c
     by_cases a:x=s
     ·subst a;simp only [Zm,c,if_true]
     ·simp only [Zm];rw [Xc (fun e=>a e.symm),Xc a,Xc (fun e=>a (by rw [<- c,e]))]
    ·rename_i f c
     by_cases a:x=s
     ·subst a;have hs:Zg x t.1=true:=ZaC (by simpa using f) c
      have j:Zm (t::r) x=[]:=Zbf fun u d e=>by
       rcases XT.1 d with rfl|d
       ·exact c e
       ·have:=Zaq hs (h.1 u d);rw [e] at this;exact Zbd this rfl
      rw [Zm,Xe rfl,Xe rfl,j];rfl
     ·rw [Zm,Xc (fun e=>a e.symm),Xc a]
theorem ZeV:∀(qs:List (Xu×α)) {l:List (Tr α)} (x:Xu),ZX l->Zm (Zz l qs) x=Zm l x++(qs.filter (fun q=>q.1=x)).map (·.2)
 | [],l,x,_=>by simp [Zz]
 | q::qs,l,x,h=>by
   have e:Zz l (q::qs)=Zz (Zak l q.1 q.2) qs:=rfl;rw [e,ZeV qs x (ZdS _ _ h),ZeA _ _ _ h]
   by_cases a:x=q.1
   ·subst a;simp
   ·rw [Xc a,Xbn (by simpa using fun e=>a e.symm)]
theorem Znd (fs:List Fld) (x:Xu):Zm (Zb6 fs) x=((ZM 0 fs).filter (fun q=>q.1=x)).map (·.2):=by
 unfold Zb6;rw [ZeV _ _ (by simp [ZX])];rfl
theorem Zie (fs:List Fld):ZX (Zb6 fs):=Zek _ (by simp [ZX])
theorem Zld:∀{l:List (Tr α)} (s:Xu) (p:α),(∀t∈l,t.2≠[])->∀t∈Zak l s p,t.2≠[]
 | [],s,p,_=>by simp [Zak]
 | u::r,s,p,h=>by
   intro t a;rw [Zak] at a
   split at a
   ·rcases XT.1 a with rfl|a
    ·exact h t (by simp)
    ·exact Zld s p (fun v b=>h v (by simp [b])) t a
   ·split at a
    ·rcases XT.1 a with rfl|a
     ·simp
     ·exact h t (by simp [a])
    ·rcases XT.1 a with rfl|a
     ·simp
     ·exact h t (by simpa using a)
theorem Zi7:∀(qs:List (Xu×α)) {l:List (Tr α)},(∀t∈l,t.2≠[])->∀t∈Zz l qs,t.2≠[]
 | [],_,h=>h
 | q::qs,l,h=>Zi7 qs (Zld q.1 q.2 h)
theorem ZoT (fs:List Fld):∀t∈Zb6 fs,t.2≠[]:=Zi7 _ (by simp)
theorem Zfw:∀{a b:List (Tr α)},ZX a->ZX b->(∀t∈a,t.2≠[])->(∀t∈b,t.2≠[])->(∀x,Zm a x=Zm b x)->a=b
 | [],[],_,_,_,_,_=>rfl
 | [],t::r,_,_,_,h2,h=>by
   have:=h t.1;rw [Zm,Zm,Xe rfl] at this;exact absurd this.symm (h2 t (by simp))
 | t::r,[],_,_,h1,_,h=>by
   have:=h t.1;rw [Zm,Zm,Xe rfl] at this;exact absurd this (h1 t (by simp))
 | t::r,u::q,ha,hb,h1,h2,h=>by
   unfold ZX at ha hb;rw [XaA] at ha hb
   have j:∀x,Zg x t.1=true->Zm (t::r) x=[]:=fun x f=>Zbf fun v c e=>by
    rcases XT.1 c with rfl|c
    ·rw [e] at f;exact Zbd f rfl
    ·have:=Zaq f (ha.1 v c);rw [e] at this;exact Zbd this rfl
   have g:∀x,Zg x u.1=true->Zm (u::q) x=[]:=fun x f=>Zbf fun v c e=>by
    rcases XT.1 c with rfl|c
    ·rw [e] at f;exact Zbd f rfl
    ·have:=Zaq f (hb.1 v c);rw [e] at this;exact Zbd this rfl
   have l:t.1=u.1:=by
    apply Xaz;intro n;cases hl:Zg t.1 u.1 with
    | true =>
      have d:=h t.1;rw [g t.1 hl,Zm,Xe rfl] at d;exact h1 t (by simp) d
    | false =>
      have d:=h u.1;rw [j u.1 (ZaC hl n)] at d;rw [Zm,Xe rfl] at d;exact h2 u (by simp) d.symm
   have p:t.2=u.2:=by
    have d:=h t.1;rw [Zm,Xe rfl,Zm,Xe l.symm] at d;exact d
   have o:t=u:=XaL l p;subst o
   have m:r=q:=Zfw ha.2 hb.2 (fun v c=>h1 v (by simp [c])) (fun v c=>h2 v (by simp [c])) (fun x=>by
    have d:=h x;rw [Zm,Zm] at d
    by_cases f:t.1=x
    ·subst f;rw [Zbf fun v c e=>by have:=ha.1 v c;rw [e] at this;exact Zbd this rfl,Zbf fun v c e=>by have:=hb.1 v c;rw [e] at this;exact Zbd this rfl]
    ·rw [Xc f,Xc f] at d;exact d)
   rw [m]
def Zaf (l:List (Tr α)):List α:=l.flatMap (·.2)
theorem ZnC:∀(l:List (Tr α)) (s:Xu) (p:α),(Zaf (Zak l s p)).Perm (Zaf l++[p])
 | [],s,p=>by simp [Zak,Zaf]
 | t::r,s,p=>by
   rw [Zak]
   split
   ·show (t.2++Zaf (Zak r s p)).Perm ((t.2++Zaf r)++[p])
    rw [Xk];exact List.Perm.append_left _ (ZnC r s p)
   ·split
    ·show ((t.2++[p])++Zaf r).Perm ((t.2++Zaf r)++[p])
     rw [Xk,Xk];exact List.Perm.append_left _ List.perm_append_comm
    ·show ([p]++(t.2++Zaf r)).Perm ((t.2++Zaf r)++[p])
     exact List.perm_append_comm
theorem ZeO:∀(qs:List (Xu×α)) (l:List (Tr α)),(Zaf (Zz l qs)).Perm (Zaf l++qs.map (·.2))
 | [],l=>by simp [Zz]
 | q::qs,l=>by
   have e:Zz l (q::qs)=Zz (Zak l q.1 q.2) qs:=rfl;rw [e];refine (ZeO qs _).trans ?_;refine (List.Perm.append_right _ (ZnC l q.1 q.2)).trans ?_;rw [Xk];exact List.Perm.refl _
def ZC1 (fs:List Fld):List Int:=(ZM 0 fs).map (·.2)
theorem ZrM (fs:List Fld):(Zaf (Zb6 fs)).Perm (ZC1 fs):=by
 exact ZeO (ZM 0 fs) []
theorem Zgn (n:Xu) (a:List Xu) (base:Int):(Zac n a base).map (·.2)=(List.range a.length).map (fun k:Nat=>base+(k:Int)):=by
 apply List.ext_getElem
 ·simp [Zac]
 ·intro i h1 h2;simp [Zac]
theorem ZdP:∀(fs:List Fld) (base:Int),∀v∈(ZM base fs).map (·.2),base<=v
 | [],base,v,h=>by simp [ZM] at h
 | f::r,base,v,h=>by
   rw [ZM,XM,Xam,Zgn] at h;rcases h with h|h
   ·obtain ⟨k,_,rfl⟩:=X4.1 h;omega
   ·have:=ZdP r _ v h;omega
theorem Zhj:∀(fs:List Fld) (base:Int),((ZM base fs).map (·.2)).Pairwise (·<·)
 | [],base=>by simp [ZM]
 | f::r,base=>by
   rw [ZM,XM,List.pairwise_append,Zgn];refine ⟨?_,Zhj r _,?_⟩
   ·rw [List.pairwise_map];exact List.pairwise_lt_range.imp fun h=>by omega
   ·intro a e b c;obtain ⟨k,d,rfl⟩:=X4.1 e;have:=ZdP r _ b c;have:=List.mem_range.1 d;omega
def ZeZ (fs:List Fld):Nat:=(fs.map fun f=>(Z4 f.2).length).sum
theorem ZmJ:∀(fs:List Fld) (base:Int),(ZM base fs).length=ZeZ fs
 | [],base=>rfl
 | f::r,base=>by
   rw [ZM,Xd,ZmJ r];simp [Zac,ZeZ]
theorem ZiE (fs:List Fld):(Zaf (Zb6 fs)).length=ZeZ fs:=by
 rw [(ZrM fs).length_eq];unfold ZC1;rw [XF,ZmJ]
end EM
namespace DM
open VM
open EM (Zg Zbc Zaq ZaC Zbd Zew)
variable {j i:Nat} {ahead b:Xu}
abbrev ZN:=Xu×(Int×(Int×Int))
def Zcx (z:Int):Bool:=decide (0<=z)&&decide (z<=67108864)
def okX (x:ZN):Bool:=decide (1<=x.1.length)&&decide (x.1.length<=65)&&Zcx x.2.1&&Zcx x.2.2.1&&Zcx x.2.2.2
theorem Zre {z:Int}:Zcx z=true↔0<=z/\z<=67108864:=by simp [Zcx]
theorem Zfb {x:ZN}:okX x=true↔(1<=x.1.length/\x.1.length<=65)/\(0<=x.2.1/\x.2.1<=67108864)/\(0<=x.2.2.1/\x.2.2.1<=67108864)/\(0<=x.2.2.2/\x.2.2.2<=67108864):=by
 unfold okX;simp only [Xw,Xg,Zre];constructor
 ·rintro ⟨⟨⟨⟨e,f⟩,d⟩,c⟩,a⟩;exact ⟨⟨e,f⟩,d,c,a⟩
 ·rintro ⟨⟨e,f⟩,d,c,a⟩;exact ⟨⟨⟨⟨e,f⟩,d⟩,c⟩,a⟩
def ZmZ (p:Option Xu) (t:Xu):Bool:=match p with
 | none=>true
 | some q=>Zg q t
def ZfY:Option Xu->List ZN->Bool
 | _,[]=>true
 | p,x::r=>okX x&&ZmZ p x.1&&ZfY (some x.1) r
theorem Zdt (p:Option Xu) (x:ZN) (r:List ZN):ZfY p (x::r)=(okX x&&ZmZ p x.1&&ZfY (some x.1) r):=by cases p<;>rfl
def ZbC (l:List ZN):Bool:=decide (l.length<=262144)&&ZfY none l
def ZL:Xu->Xu->Nat
 | a::x,b::y=>if a=b then ZL x y+1 else 0
 | _,_=>0
theorem ZdL:∀x y,ZL x y<=x.length/\ZL x y<=y.length
 | [],_=>by simp [ZL]
 | _::_,[]=>by simp [ZL]
 | a::x,b::y=>by
   rw [ZL];have:=ZdL x y
   split<;>simp<;>omega
theorem Zgw:∀x y:Xu,x.take (ZL x y)=y.take (ZL x y)
 | [],_=>by simp [ZL]
 | _::_,[]=>by simp [ZL]
 | a::x,b::y=>by
   rw [ZL]
   split
   ·rename_i h;subst h;simp [Zgw x y]
   ·rfl
theorem ZiN:∀{x y:Xu} {k:Nat},k<=x.length->k<=y.length->(∀i,i<k->x[i]? = y[i]?)->(k<x.length->k<y.length->x[k]? ≠ y[k]?)->ZL x y=k
 | [],_,k,h,_,_,_=>by have:k=0:=(by simpa using h);subst this;simp [ZL]
 | _::_,[],k,_,h,_,_=>by have:k=0:=(by simpa using h);subst this;simp [ZL]
 | a::x,b::y,0,_,_,_,h=>by
   have:=h (by simp) (by simp);rw [ZL,Xc (fun e=>this (by simp [e]))]
 | a::x,b::y,k+1,h1,h2,h3,h4=>by
   have d:=h3 0 (by omega);have e:a=b:=by simpa using d
   rw [ZL,Xe e,ZiN (k:=k) (by simpa using h1) (by simpa using h2) (fun i hi=>by simpa using h3 (i+1) (by omega)) (fun f c=>by simpa using h4 (by simpa using f) (by simpa using c))]
def Zea (ahead:Xu) (x:ZN):Xu:=Zb (ZL ahead x.1)++(Z5 (x.1.drop (ZL ahead x.1))++(Zb x.2.1.toNat++(Zb x.2.2.1.toNat++Zb x.2.2.2.toNat)))
def ZA:Xu->List ZN->Xu
 | _,[]=>[]
 | ahead,x::r=>Zea ahead x++ZA x.1 r
theorem Zkw:∀(ahead:Xu) (l:List ZN) (x:ZN),ZA ahead (l++[x])=ZA ahead l++Zea ((l.getLast?.map (·.1)).getD ahead) x
 | ahead,[],x=>by simp [ZA]
 | ahead,y::l,x=>by
   rw [XK,ZA,ZA,Zkw y.1 l x,Xk];cases l<;>simp [List.getLast?_cons]
def Zw (l:List ZN) (j:Nat):List ZN:=(l.drop (16*j)).take 16
def Zfr (l:List ZN) (j:Nat):Xu:=Zb (ZA [] (Zw l j)).length++ZA [] (Zw l j)
def Zr (l:List ZN):Nat:=(l.length+15) / 16
def ZbP (l:List ZN) (j:Nat):Xu:=((List.range (Zr l)).drop j).flatMap (Zfr l)
theorem Zi2 {l:List ZN} (h:j<Zr l):ZbP l j=Zfr l j++ZbP l (j+1):=by
 unfold ZbP;rw [X7 (by simpa using h),XaP];simp
theorem Zqe {l:List ZN} (h:Zr l<=j):ZbP l j=[]:=by
 unfold ZbP;rw [Xao (by simpa using h)];rfl
def ZbD (l:List ZN):Xu:=Zb l.length++ZbP l 0
def Zi9 (l:Xu) (a:Nat):Option (Nat×Xu):=if (Zs l).2.2≠0\/a<(Zs l).1 then none else some ((Zs l).1,l.drop (Zs l).2.1)
theorem Zcf {n a:Nat} (h:n<=a) (c:n<18446744073709551616) (r:Xu):Zi9 (Zb n++r) a=some (n,r):=by
 unfold Zi9;rw [ZdU n c r];dsimp only;rw [Xas,Xc (by simp;omega)]
def rdX (ahead:Xu) (l:Xu):Option (ZN×Xu) :=
 match Zi9 l ahead.length with
 | none=>none
 | some (k,l1) =>
   if (Zah l1 65).2.2≠0 then none
   else match Zi9 (l1.drop (Zah l1 65).2.1) 67108864 with
    | none=>none
    | some (o,l2)=>match Zi9 l2 67108864 with
      | none=>none
      | some (m,l3)=>match Zi9 l3 67108864 with
        | none=>none
        | some (n,l4)=>some ((ahead.take k++(Zah l1 65).1,((o:Int),((m:Int),(n:Int)))),l4)
theorem Zun {x:ZN} (h:okX x=true) (hl:ahead.length<=65) (r:Xu):rdX ahead (Zea ahead x++r)=some (x,r):=by
 obtain ⟨⟨h1,h2⟩,d,c,a⟩:=Zfb.1 h;have hs:=ZdL ahead x.1;unfold rdX Zea;simp only [Xk];rw [Zcf hs.1 (by omega)];dsimp only;rw [Zjb (x.1.drop (ZL ahead x.1)) (by rw [Xp];omega) 65 (by rw [Xp];omega)];dsimp only;rw [Xc (by simp),Xas,Zcf (by omega) (by omega)];dsimp only;rw [Zcf (by omega) (by omega)];dsimp only;rw [Zcf (by omega) (by omega)];dsimp only;rw [Zgw,X8];obtain ⟨t,o,m,n⟩:=x;dsimp only at d c a ⊢;rw [show ((o.toNat:Nat):Int)=o by omega,show ((m.toNat:Nat):Int)=m by omega,show ((n.toNat:Nat):Int)=n by omega]
def ZiD:Nat->Nat->Xu->List ZN->Xu->Option (List ZN)
 | 0,_,_,acc,_=>some acc
 | f+1,i,ahead,acc,l =>
   if i%16=0 then
    match Zi9 l 1073741824 with
    | none=>none
    | some (_,l1)=>match rdX [] l1 with
      | none=>none
      | some (x,r)=>ZiD f (i+1) x.1 (acc++[x]) r
   else match rdX ahead l with
    | none=>none
    | some (x,r)=>ZiD f (i+1) x.1 (acc++[x]) r
def Zhv (l:List ZN) (i:Nat):Xu :=
 if i%16=0 then ZbP l (i / 16) else ZA ((l.getD (i - 1) ([],0,0,0)).1) ((l.drop i).take (16 - i%16))++ZbP l (i / 16+1)
theorem Zkx {l:List ZN} {k:Nat} (hi:i<l.length) (hk:0<k) (ahead:Xu):ZA ahead ((l.drop i).take k)=Zea ahead l[i]++ZA l[i].1 ((l.drop (i+1)).take (k - 1)):=by
 obtain ⟨k,rfl⟩:∃j,k=j+1:=⟨k - 1,by omega⟩;rw [X7 hi,XaC,ZA];simp
theorem ZoR {l:List ZN} (hi:i<l.length):ZA l[i].1 ((l.drop (i+1)).take (15 - i%16))++ZbP l (i / 16+1)=Zhv l (i+1):=by
 unfold Zhv
 by_cases h:(i+1)%16=0
 ·rw [Xe h];have e:15 - i%16=0:=by omega
  rw [e,XaK,ZA,XE];congr 1
  omega
 ·rw [Xc h];have c:(i+1) / 16=i / 16:=by omega
  have a:16 - (i+1)%16=15 - i%16:=by omega
  rw [c,a];congr 2
  simp [List.getD,hi]
theorem Zwn {l:List ZN} (hi:i<l.length) (h:¬i%16=0):Zhv l i=Zea (l.getD (i - 1) ([],0,0,0)).1 l[i]++Zhv l (i+1):=by
 conv=>lhs;unfold Zhv
 rw [Xc h,Zkx hi (by omega),Xk,show 16 - i%16 - 1=15 - i%16 by omega,ZoR hi]
theorem Ztv {l:List ZN} (hi:i<l.length) (h:i%16=0):Zhv l i=Zb (ZA [] (Zw l (i / 16))).length++(Zea [] l[i]++Zhv l (i+1)):=by
 conv=>lhs;unfold Zhv
 rw [Xe h,Zi2 (by unfold Zr;omega)];unfold Zfr;rw [Xk];congr 1
 unfold Zw;rw [show 16*(i / 16)=i by omega,Zkx hi (by omega),Xk,<- ZoR hi,show 16 - 1=15 - i%16 by omega]
theorem Zl2 {x:ZN} (h:okX x=true):(Zea ahead x).length<=115:=by
 obtain ⟨⟨h1,h2⟩,_⟩:=Zfb.1 h;unfold Zea;simp only [Xd];have b1:=Zc (ZL ahead x.1);have b2:=Zc x.2.1.toNat;have b3:=Zc x.2.2.1.toNat;have b4:=Zc x.2.2.2.toNat;have a:=(EM.ZdM (x.1.drop (ZL ahead x.1))).1;rw [Xp] at a;omega
theorem ZbM:∀(l:List ZN) (ahead:Xu),(∀x∈l,okX x=true)->(ZA ahead l).length<=115*l.length
 | [],_,_=>by simp [ZA]
 | x::r,ahead,h=>by
   rw [ZA,Xd,Xh];have h1:=Zl2 (ahead:=ahead) (h x (by simp));have h2:=ZbM r x.1 fun y a=>h y (by simp [a]);omega
theorem ZmM {l:List ZN} (h:∀x∈l,okX x=true):∀(f i:Nat) (ahead:Xu),i+f=l.length->(¬i%16=0->ahead=(l.getD (i - 1) ([],0,0,0)).1)->ZiD f i ahead (l.take i) (Zhv l i)=some l
 | 0,i,ahead,hf,_=>by
   rw [ZiD,XO (by omega)]
 | f+1,i,ahead,hf,ha=>by
   have hi:i<l.length:=by omega
   have k:=h l[i] (XI hi)
   have c:∀a,a=l[i].1->ZiD f (i+1) a (l.take i++[l[i]]) (Zhv l (i+1))=some l:=fun a e=>by
    rw [<- XG hi];refine ZmM h f (i+1) a (by omega) fun _ => ?_;rw [e];simp [List.getD,hi]
   rw [ZiD]
   by_cases d:i%16=0
   ·have o:(ZA [] (Zw l (i / 16))).length<=1840:=by
     have:=ZbM (Zw l (i / 16)) [] fun x k=>h x (XaX (Xaq k));have m:(Zw l (i / 16)).length<=16:=by unfold Zw;rw [Xi];omega
     omega
    rw [Xe d,Ztv hi d,Zcf (by omega) (by omega)];dsimp only;rw [Zun k (by simp)];exact c _ rfl
   ·have n:(l.getD (i - 1) ([],0,0,0)).1.length<=65:=by
     have g:i - 1<l.length:=by omega
     have e:l.getD (i - 1) ([],0,0,0)=l[i - 1]:=by simp [List.getD,g]
     rw [e];exact (Zfb.1 (h l[i - 1] (XI g))).1.2
    rw [Xc d,Zwn hi d,ha d,Zun k n];exact c _ rfl
def rdD (b:Xu):Option (List ZN):=match Zi9 b 262144 with
 | none=>none
 | some (n,r)=>ZiD n 0 [] [] r
def Znl (b:Xu):Option (List ZN):=match rdD b with
 | none=>none
 | some l=>if ZbC l=true/\ZbD l=b then some l else none
theorem ZlG:∀{l:List ZN} {p:Option Xu},ZfY p l=true->∀x∈l,okX x=true
 | [],_,_=>by simp
 | x::r,p,h=>by
   rw [Zdt,Xw,Xw] at h;intro y a;rcases XT.1 a with rfl|a
   ·exact h.1.1
   ·exact ZlG h.2 y a
theorem ZfD {l:List ZN} (h:ZbC l=true):l.length<=262144/\∀x∈l,okX x=true:=by
 unfold ZbC at h;rw [Xw,Xg] at h;exact ⟨h.1,ZlG h.2⟩
theorem ZBG {l:List ZN} (h:ZbC l=true):rdD (ZbD l)=some l:=by
 obtain ⟨a,d⟩:=ZfD h;unfold rdD ZbD;rw [Zcf a (by omega)];have:=ZmM d l.length 0 [] (by omega) (fun c=>absurd rfl c);simpa [Zhv] using this
theorem Zqn {l:List ZN} (h:ZbC l=true):Znl (ZbD l)=some l:=by
 unfold Znl;rw [ZBG h];simp [h]
theorem ZnP {l:List ZN} (h:Znl b=some l):ZbC l=true/\ZbD l=b:=by
 unfold Znl at h
 split at h
 ·cases h
 ·split at h
  ·rename_i a;obtain rfl:=XW h;exact a
  ·cases h
theorem Zxw {l:List ZN}:Znl b=some l↔ZbC l=true/\ZbD l=b:=⟨ZnP,fun ⟨a,c⟩=>by rw [<- c];exact Zqn a⟩
end DM
namespace SM
open VM
open EM (Fld Ev ZH ZiS Z0 Zcd ZfK Zg3 ZdB Zlk Zap Zd4 ZaK)
open DM (Zi9 Zcf)
abbrev Zq:=Int×Ev
def ZcA:Zq:=(0,(0,[]))
def okS (a:Int) (d:Zq):Bool:=decide (a<d.1)&&decide (d.1<=1099511627776)&&decide (ZH d.2=0)
theorem Zgk {a:Int} {d:Zq}:okS a d=true↔a<d.1/\d.1<=1099511627776/\ZH d.2=0:=by
 unfold okS;simp only [Xw,Xg,and_assoc]
def isR:Int->List Zq->Bool
 | _,[]=>true
 | last,d::r=>okS last d&&isR d.1 r
def isS (l:List Zq):Bool:=decide (l.length<=65536)&&isR 0 l
theorem Zms {l:List Zq} {a:Int} {k:Nat} (b:k<l.length):isR a (l.drop k)=(okS a l[k]&&isR l[k].1 (l.drop (k+1))):=by
 rw [X7 b,isR]
theorem Zuc (l:List Zq) (a:Int):isR a (l.drop l.length)=true:=by rw [Xaf,isR]
def ZaJ (l:List Zq):Nat->Int
 | 0=>0
 | k+1=>(l.getD k ZcA).1
theorem Zgg {l:List Zq} {k:Nat} (a:k<l.length):ZaJ l (k+1)=l[k].1:=by simp [ZaJ,List.getD,a]
theorem Zyr:∀{l:List Zq} {a:Int},isR a l=true->∀(k:Nat) (b:k<l.length),okS (if k=0 then a else ZaJ l k) l[k]=true
 | [],_,_,k,b=>by simp at b
 | d::r,a,h,0,b=>by
   rw [isR,Xw] at h;exact h.1
 | d::r,a,h,k+1,b=>by
   rw [isR,Xw] at h;have ih:=Zyr h.2 k (by simpa using b)
   have e:(if k=0 then d.1 else ZaJ r k)=(if k+1=0 then a else ZaJ (d::r) (k+1)):=by
    cases k with
    | zero=>simp [ZaJ]
    | succ k=>simp [ZaJ]
   rw [<- e];exact ih
theorem Zcv {l:List Zq}:isS l=true↔l.length<=65536/\isR 0 l=true:=by
 unfold isS;rw [Xw,Xg]
theorem Zge {l:List Zq} (h:isS l=true) {k:Nat} (a:k<l.length):ZaJ l k<l[k].1/\l[k].1<=1099511627776/\ZH l[k].2=0:=by
 have:=Zyr (Zcv.1 h).2 k a
 have e:(if k=0 then 0 else ZaJ l k)=ZaJ l k:=by
  cases k with
  | zero=>simp [ZaJ]
  | succ k=>simp
 rw [e] at this;exact Zgk.1 this
theorem Zcw {l:List Zq} (h:isS l=true):∀{k:Nat},k<=l.length->0<=ZaJ l k/\ZaJ l k<=1099511627776
 | 0,_=>by simp [ZaJ]
 | k+1,hk=>by
   have h1:=Zcw h (k:=k) (by omega);have h2:=Zge h (k:=k) (by omega);rw [Zgg (by omega)];omega
def Zk8 (l:List Zq) (k:Nat):Xu:=Zb ((l.getD k ZcA).1 - ZaJ l k - 1).toNat++Z0 (l.getD k ZcA).2
theorem Zfc {l:List Zq} {k:Nat} (a:k<l.length):Zk8 l k=Zb (l[k].1 - ZaJ l k - 1).toNat++Z0 l[k].2:=by
 unfold Zk8;simp [List.getD,a]
def ZR (l:List Zq) (i k:Nat):Xu:=(List.range' i (k - i)).flatMap (Zk8 l)
theorem Zcl (l:List Zq) (i:Nat):ZR l i i=[]:=by simp [ZR]
theorem Zck {l:List Zq} {i k:Nat} (h:i<=k):ZR l i (k+1)=ZR l i k++Zk8 l k:=by
 unfold ZR;rw [show k+1 - i=k - i+1 by omega,List.range'_1_concat,XaQ,show i+(k - i)=k by omega];simp
theorem Zrk {l:List Zq} {i k:Nat} (h:i<k):ZR l i k=Zk8 l i++ZR l (i+1) k:=by
 unfold ZR;rw [show k - i=(k - (i+1))+1 by omega,List.range'_succ,XaP]
theorem ZiG {l:List Zq} {i j:Nat} (a:i<=j):∀{k:Nat},j<=k->ZR l i j++ZR l j k=ZR l i k
 | 0,h2=>by
   obtain rfl:j=0:=by omega
   obtain rfl:i=0:=by omega
   simp [ZR]
 | k+1,h2=>by
   by_cases e:j=k+1
   ·subst e;rw [Zcl,XH]
   ·rw [Zck (by omega),Zck (by omega),<- Xk,ZiG a (by omega)]
def Zbu (l:List Zq) (c:Nat):Nat:=min (16*c+16) l.length
def Zg8 (l:List Zq) (c:Nat):Xu:=Zb (ZaJ l (Zbu l c)).toNat++Zb (ZR l (16*c) (Zbu l c)).length
def Zas (l:List Zq) (a c:Nat):Xu:=(List.range' a c).flatMap (Zg8 l)
theorem Ze9 (l:List Zq) (a:Nat):Zas l a 0=[]:=by simp [Zas]
theorem Ze8 (l:List Zq) (a c:Nat):Zas l a (c+1)=Zas l a c++Zg8 l (a+c):=by
 unfold Zas;rw [List.range'_1_concat,XaQ];simp
theorem ZqM (l:List Zq) (a c:Nat):Zas l a (c+1)=Zg8 l a++Zas l (a+1) c:=by
 unfold Zas;rw [List.range'_succ,XaP]
def ZK (n:Nat):Nat:=(n+15) / 16
def encS (l:List Zq):Xu:=Zb l.length++(Zas l 0 (ZK l.length)++ZR l 0 l.length)
theorem Zq2 {l:List Zq} (h:isS l=true) {k:Nat} (a:k<l.length):(Zk8 l k).length<=67000/\1<=(Zk8 l k).length:=by
 rw [Zfc a,Xd];obtain ⟨h1,h2,c⟩:=Zge h a;obtain ⟨h4,b⟩:=ZaK.1 c;have b1:=Zc (l[k].1 - ZaJ l k - 1).toNat;have b2:=Zcd l[k].2;have b3:=Zd4 b;omega
theorem Zbw {l:List Zq} (h:isS l=true) {i:Nat}:∀{k:Nat},i<=k->k<=l.length->(ZR l i k).length<=67000*(k - i)/\k - i<=(ZR l i k).length
 | 0,h1,_=>by
   obtain rfl:i=0:=by omega
   simp [ZR]
 | k+1,h1,h2=>by
   by_cases e:i=k+1
   ·subst e;rw [Zcl];simp
   ·have ih:=Zbw h (i:=i) (k:=k) (by omega) (by omega);have b:=Zq2 h (k:=k) (by omega);rw [Zck (by omega),Xd];omega
def ZrG:Nat->Xu->Option Xu
 | 0,l=>some l
 | k+1,l=>match Zi9 l 1099511627776 with
   | none=>none
   | some (_,x)=>match Zi9 x 1099511627776 with
     | none=>none
     | some (_,y)=>ZrG k y
def rdR:Nat->Int->List Zq->Xu->Option (List Zq)
 | 0,_,acc,_=>some acc
 | f+1,last,acc,l=>match Zi9 l 1099511627776 with
   | none=>none
   | some (d,x)=>match ZfK x with
     | none=>none
     | some (e,y)=>rdR f (last+1+d) (acc++[(last+1+d,e)]) y
def rdS (b:Xu):Option (List Zq):=match Zi9 b 65536 with
 | none=>none
 | some (n,r)=>if b.length<n then none else match ZrG (ZK n) r with
   | none=>none
   | some y=>rdR n 0 [] y
def ZgL (b:Xu):Option (List Zq):=match rdS b with
 | none=>none
 | some l=>if isS l=true/\encS l=b then some l else none
def ZaS (l:List Zq):Prop:=∀d∈l,ZiS d.2
theorem ZoN {l:List Zq} (h:isS l=true):∀(f c:Nat) (r:Xu),16*(c+f)<=l.length+15->ZrG f (Zas l c f++r)=some r
 | 0,c,r,_=>by rw [Ze9,ZrG];rfl
 | f+1,c,r,hc=>by
   have a:Zbu l c<=l.length:=by unfold Zbu;omega
   have hs:16*c<=Zbu l c:=by unfold Zbu;omega
   have hd:Zbu l c - 16*c<=16:=by unfold Zbu;omega
   have h1:=Zcw h a;have h2:=Zbw h hs a;rw [ZqM,ZrG];unfold Zg8;simp only [Xk];rw [Zcf (by omega) (by omega)];dsimp only;rw [Zcf (by omega) (by omega)];dsimp only;exact ZoN h f (c+1) r (by omega)
theorem Zum {l:List Zq} (h:isS l=true) (hf:ZaS l) (r:Xu):∀(f k:Nat),k+f=l.length->rdR f (ZaJ l k) (l.take k) (ZR l k l.length++r)=some l
 | 0,k,hk=>by
   rw [rdR,XO (by omega)]
 | f+1,k,hk=>by
   have a:k<l.length:=by omega
   obtain ⟨h1,h2,b⟩:=Zge h a;have h0:=Zcw h (k:=k) (by omega);rw [rdR,Zrk a,Zfc a];simp only [Xk];rw [Zcf (by omega) (by omega)];dsimp only;rw [Zg3 (hf _ (XI a)) b];dsimp only;have e:ZaJ l k+1+((l[k].1 - ZaJ l k - 1).toNat:Nat)=l[k].1:=by omega
   rw [e];have:=Zum h hf r f (k+1) (by omega);rw [Zgg a,XG a] at this;exact this
theorem Zl1 {l:List Zq} (h:isS l=true):l.length<(encS l).length:=by
 unfold encS;simp only [Xd];have h1:=Zc l.length;have h2:=(Zbw h (i:=0) (k:=l.length) (by omega) (by omega)).2;omega
theorem ZBI {l:List Zq} (h:isS l=true) (hf:ZaS l) (r:Xu):rdS (encS l++r)=some l:=by
 have hl:=Zl1 h;have a:=(Zcv.1 h).1;unfold rdS
 have e:encS l++r=Zb l.length++(Zas l 0 (ZK l.length)++(ZR l 0 l.length++r)):=by
  unfold encS;simp only [Xk]
 have b:Zi9 (encS l++r) 65536=some (l.length,Zas l 0 (ZK l.length)++(ZR l 0 l.length++r)):=by
  rw [e,Zcf a (by omega)]
 rw [b];dsimp only;rw [Xc (by rw [Xd];omega),ZoN h _ _ _ (by unfold ZK;omega)];exact Zum h hf r l.length 0 (by omega)
theorem ZgW {l:List Zq} (h:isS l=true) (hf:ZaS l):ZgL (encS l)=some l:=by
 have:=ZBI h hf [];rw [XH] at this;unfold ZgL;rw [this];simp [h]
theorem Zul:∀(f:Nat) (c:Int) (a:List Zq) (b:Xu) {l:List Zq},ZaS a->rdR f c a b=some l->ZaS l
 | 0,_,a,b,l,ha,h=>by
   rw [rdR] at h;obtain rfl:=XW h;exact ha
 | f+1,c,a,b,l,ha,h=>by
   rw [rdR] at h
   split at h
   ·cases h
   ·split at h
    ·cases h
    ·rename_i e y i;refine Zul f _ _ _ ?_ h;intro d g;rcases Xam.1 g with g|g
     ·exact ha d g
     ·obtain rfl:=XaJ.1 g;exact (ZdB i).2.1
theorem Zdx {b:Xu} {l:List Zq} (h:ZgL b=some l):isS l=true/\ZaS l/\encS l=b:=by
 unfold ZgL at h
 split at h
 ·cases h
 ·rename_i m a
  split at h
  ·rename_i c;obtain rfl:=XW h;refine ⟨c.1,?_,c.2⟩;unfold rdS at a
   split at a
   ·cases a
   ·split at a
    ·cases a
    ·split at a
     ·cases a
     ·exact Zul _ _ _ _ (fun d e=>by simp at e) a
  ·cases h
end SM
namespace UM
open RowKit
variable {r:Int}
theorem ZaI:(prog.info? 5).map (fun i=>(i.zero,i.size,i.bytes))=some (some (.int .u8 0),1,1):=by kernel_rfl
def Zbo (B:Nat) (v:Value) (n:Nat) (a:List Value) (r:Int) (w:World) (e:Ending) (w':World):Prop :=
 ∃v',e=.returned v'/\w'.ownsRow B 5 1 v' (n+(Lib.runeCells r).length) (a++Lib.runeCells r)/\∃o,(w.alloc o).grownBy w' v.ownBlock
theorem cells_one (b:0<=r) (a:r<=127):Lib.runeCells r=[.int .u8 r]:=by unfold Lib.runeCells;rw [Lib.encodeRuneZ_one b a];rfl
theorem ZuR (b:128<=r) (a:r<=2047):Lib.runeCells r=[.int .u8 (192+r / 64),.int .u8 (128+r%64)]:=by unfold Lib.runeCells;rw [Lib.encodeRuneZ_two b a];rfl
theorem ZkB (h:(2048<=r/\r<55296)\/(57343<r/\r<=65535)):Lib.runeCells r=[.int .u8 (224+r / 4096),.int .u8 (128+r / 64%64),.int .u8 (128+r%64)]:=by unfold Lib.runeCells;rw [Lib.encodeRuneZ_three h];rfl
theorem Zsg (b:65536<=r) (a:r<=1114111):Lib.runeCells r=[.int .u8 (240+r / 262144),.int .u8 (128+r / 4096%64),.int .u8 (128+r / 64%64),.int .u8 (128+r%64)]:=by unfold Lib.runeCells;rw [Lib.encodeRuneZ_four b a];rfl
theorem ZlP (r:Int):Lib.runeCells (norm r)=Lib.runeCells r:=by unfold Lib.runeCells;rw [ZfF]
theorem ZBD (B:Nat) (v:Value) (n:Nat) (h:List Value) (r:Int) (j:0<=r) (k:r<=127) (w:World) (c:w.ownsRow B 5 1 v n h) (g:n+4<=140737488355328) (i:B<=w.heap.size) :
  Calls prog 221 #[v,.int .i64 r] w (Zbo B v n h r w):=by
 unfold Zbo;rw [cells_one j k];obtain ⟨i0,hi,d,e,f⟩:=info_parts ZaI;have s1:¬r<0:=by omega
 have s2:¬ 1114111<r:=by omega
 have s3:¬ 55296<=r:=by omega
 go_enter func221,ntmps221;go_wp2_with (at_builtin;refine wpList_append_own _ rfl _ _ 23 rfl B 5 i0 (.int .u8 0) 1 1 underlying23 hi d e f rfl (by decide) _ _ _ rfl (c.alloc _) ⟨w.heap.size,0,none⟩ 1 1 [.int .u8 r] rfl rfl ?c1 ?c2 ?c3 ?c4 ?c5 ?_)
 case c2=>rfl
 case c3=>unfold maxLen;omega
 case c4=>omega
 case c5=>omega
 intro v' w2 b a _;go_wp2;go_ret;exact ⟨_,rfl,b,_,a⟩
theorem ZBE (B:Nat) (v:Value) (n:Nat) (h:List Value) (r:Int) (j:128<=r) (k:r<=2047) (w:World) (c:w.ownsRow B 5 1 v n h) (g:n+4<=140737488355328) (i:B<=w.heap.size) :
  Calls prog 221 #[v,.int .i64 r] w (Zbo B v n h r w):=by
 unfold Zbo;rw [ZuR j k];obtain ⟨i0,hi,d,e,f⟩:=info_parts ZaI;have s1:¬r<0:=by omega
 have s2:¬ 1114111<r:=by omega
 have s3:¬ 55296<=r:=by omega
 have s4:¬r<128:=by omega
 go_enter func221,ntmps221;go_wp2_with (at_builtin;refine wpList_append_own _ rfl _ _ 23 rfl B 5 i0 (.int .u8 0) 1 1 underlying23 hi d e f rfl (by decide) _ _ _ rfl (c.alloc _) ⟨w.heap.size,0,none⟩ 2 2 [.int .u8 (192+r / 64),.int .u8 (128+r%64)] rfl rfl ?c1 ?c2 ?c3 ?c4 ?c5 ?_)
 case c2=>exact ⟨rfl,rfl⟩
 case c3=>unfold maxLen;omega
 case c4=>omega
 case c5=>omega
 intro v' w2 b a _;go_wp2;go_ret;exact ⟨_,rfl,b,_,a⟩
theorem ZCL (B:Nat) (v:Value) (n:Nat) (h:List Value) (r:Int) (h0:2048<=r) (h1:r<55296) (w:World) (c:w.ownsRow B 5 1 v n h) (g:n+4<=140737488355328) (i:B<=w.heap.size) :
  Calls prog 221 #[v,.int .i64 r] w (Zbo B v n h r w):=by
 unfold Zbo;rw [ZkB (by omega)];obtain ⟨i0,hi,d,e,f⟩:=info_parts ZaI;have s1:¬r<0:=by omega
 have s2:¬ 1114111<r:=by omega
 have s3:¬ 55296<=r:=by omega
 have s4:¬r<128:=by omega
 have s5:¬r<2048:=by omega
 have s6:r<65536:=by omega
 go_enter func221,ntmps221;go_wp2_with (at_builtin;refine wpList_append_own _ rfl _ _ 23 rfl B 5 i0 (.int .u8 0) 1 1 underlying23 hi d e f rfl (by decide) _ _ _ rfl (c.alloc _) ⟨w.heap.size,0,none⟩ 3 3 [.int .u8 (224+r / 4096),.int .u8 (128+r / 64%64),.int .u8 (128+r%64)] rfl rfl ?c1 ?c2 ?c3 ?c4 ?c5 ?_)
 case c2=>exact ⟨rfl,rfl,rfl⟩
 case c3=>unfold maxLen;omega
 case c4=>omega
 case c5=>omega
 intro v' w2 b a _;go_wp2;go_ret;exact ⟨_,rfl,b,_,a⟩
theorem Zzg (B:Nat) (v:Value) (n:Nat) (h:List Value) (r:Int) (h0:57343<r) (h1:r<=65535) (w:World) (c:w.ownsRow B 5 1 v n h) (g:n+4<=140737488355328) (i:B<=w.heap.size) :
  Calls prog 221 #[v,.int .i64 r] w (Zbo B v n h r w):=by
 unfold Zbo;rw [ZkB (by omega)];obtain ⟨i0,hi,d,e,f⟩:=info_parts ZaI;have s1:¬r<0:=by omega
 have s2:¬ 1114111<r:=by omega
 have s3:55296<=r:=by omega
 have j:¬r<=57343:=by omega
 have s4:¬r<128:=by omega
 have s5:¬r<2048:=by omega
 have s6:r<65536:=by omega
 go_enter func221,ntmps221;go_wp2_with (at_builtin;refine wpList_append_own _ rfl _ _ 23 rfl B 5 i0 (.int .u8 0) 1 1 underlying23 hi d e f rfl (by decide) _ _ _ rfl (c.alloc _) ⟨w.heap.size,0,none⟩ 3 3 [.int .u8 (224+r / 4096),.int .u8 (128+r / 64%64),.int .u8 (128+r%64)] rfl rfl ?c1 ?c2 ?c3 ?c4 ?c5 ?_)
 case c2=>exact ⟨rfl,rfl,rfl⟩
 case c3=>unfold maxLen;omega
 case c4=>omega
 case c5=>omega
 intro v' w2 b a _;go_wp2;go_ret;exact ⟨_,rfl,b,_,a⟩
theorem Zzf (B:Nat) (v:Value) (n:Nat) (h:List Value) (r:Int) (j:65536<=r) (l:r<=1114111) (w:World) (c:w.ownsRow B 5 1 v n h) (g:n+4<=140737488355328) (i:B<=w.heap.size) :
  Calls prog 221 #[v,.int .i64 r] w (Zbo B v n h r w):=by
 unfold Zbo;rw [Zsg j l];obtain ⟨i0,hi,d,e,f⟩:=info_parts ZaI;have s1:¬r<0:=by omega
 have s2:¬ 1114111<r:=by omega
 have s3:55296<=r:=by omega
 have k:¬r<=57343:=by omega
 have s4:¬r<128:=by omega
 have s5:¬r<2048:=by omega
 have s6:¬r<65536:=by omega
 go_enter func221,ntmps221;go_wp2_with (at_builtin;refine wpList_append_own _ rfl _ _ 23 rfl B 5 i0 (.int .u8 0) 1 1 underlying23 hi d e f rfl (by decide) _ _ _ rfl (c.alloc _) ⟨w.heap.size,0,none⟩ 4 4 [.int .u8 (240+r / 262144),.int .u8 (128+r / 4096%64),.int .u8 (128+r / 64%64),.int .u8 (128+r%64)] rfl rfl ?c1 ?c2 ?c3 ?c4 ?c5 ?_)
 case c2=>exact ⟨rfl,rfl,rfl,rfl⟩
 case c3=>unfold maxLen;omega
 case c5=>omega
 intro v' w2 b a _;go_wp2;go_ret;exact ⟨_,rfl,b,_,a⟩
theorem Zfo {B:Nat} {v:Value} {n:Nat} {a:List Value} {q:Int} {w:World} {e:Ending} {w':World} (b:norm r=q) (h:Zbo B v n a q w e w'):Zbo B v n a r w e w':=by
 subst b;unfold Zbo at *;rw [ZlP] at h;exact h
theorem Zdd (B:Nat) (v:Value) (n:Nat) (g:List Value) (r:Int) (w:World) (a:w.ownsRow B 5 1 v n g) (b:n+4<=140737488355328) (d:B<=w.heap.size) :
  Calls prog 221 #[v,.int .i64 r] w (Zbo B v n g r w):=by
 have c:=Zzg B v n g 65533 (by omega) (by omega) w a b d
 by_cases c1:r<0
 ·have h:norm r=65533:=by unfold norm;rw [Xe (by omega)]
  have i:=Y4 h;have k:=Y4 c;clear h c a;go_enter func221,ntmps221;go_wp2_with fail;refine k.z.mono ?_;rintro e w' j;obtain ⟨v',rfl,f⟩:=j;have l:=Y4 f;clear f;go_wp2;go_ret;exact Zfo i.z ⟨v',rfl,l.z⟩
 by_cases c2:1114111<r
 ·have h:norm r=65533:=by unfold norm;rw [Xe (by omega)]
  have i:=Y4 h;have k:=Y4 c;clear h c a;go_enter func221,ntmps221;go_wp2_with fail;refine k.z.mono ?_;rintro e w' j;obtain ⟨v',rfl,f⟩:=j;have l:=Y4 f;clear f;go_wp2;go_ret;exact Zfo i.z ⟨v',rfl,l.z⟩
 by_cases c3:r<=127
 ·exact ZBD B v n g r (by omega) c3 w a b d
 by_cases o:r<=2047
 ·exact ZBE B v n g r (by omega) o w a b d
 by_cases p:r<55296
 ·exact ZCL B v n g r (by omega) p w a b d
 by_cases c6:r<=57343
 ·have h:norm r=65533:=by unfold norm;rw [Xe (by omega)]
  have m:55296<=r:=by omega
  have i:=Y4 h;have k:=Y4 c;clear h c a;go_enter func221,ntmps221;go_wp2_with fail;refine k.z.mono ?_;rintro e w' j;obtain ⟨v',rfl,f⟩:=j;have l:=Y4 f;clear f;go_wp2;go_ret;exact Zfo i.z ⟨v',rfl,l.z⟩
 by_cases q:r<=65535
 ·exact Zzg B v n g r (by omega) q w a b d
 ·exact Zzf B v n g r (by omega) (by omega) w a b d
def Zpg (r:Int):Int:=if r<0\/1114111<r then 65533 else r
theorem Zsu (r:Int):Lib.runeCells (Zpg r)=Lib.runeCells r:=by
 unfold Zpg
 split
 ·rename_i h;have:norm r=65533:=by unfold norm;rw [Xe (by omega)]
  rw [<- this,ZlP]
 ·rfl
theorem ZAE (r:Int) : -2147483648<=Zpg r/\Zpg r<=2147483647:=by unfold Zpg;split<;>omega
theorem Znn (r:Int) (w:World):Calls prog 288 #[.int .i64 r] w fun e w'=>e=.returned (.int .i32 (Zpg r))/\w=w':=by
 unfold Zpg
 by_cases c1:r<0
 ·rw [Xe (by omega)];go_enter func288,ntmps288;go_wp2;go_ret;exact ⟨rfl,rfl⟩
 ·by_cases c2:1114111<r
  ·rw [Xe (by omega)];go_enter func288,ntmps288;go_wp2;go_ret;exact ⟨rfl,rfl⟩
  ·rw [Xc (by omega)];have c3:0<=r:=by omega
   have c4:r<=1114111:=by omega
   go_enter func288,ntmps288;go_wp2;go_ret;exact ⟨rfl,rfl⟩
end UM
namespace UM
open RowKit
def ZbG (k:Nat) (r:Int):Prop:=(1<=k->¬(65<=r/\r<=90))/\(2<=k->¬(192<=r/\r<=214))/\(3<=k->¬(216<=r/\r<=222))/\(4<=k->¬(913<=r/\r<=929))/\(5<=k->¬(931<=r/\r<=939))/\(6<=k->¬(1024<=r/\r<=1039))/\(7<=k->¬(1040<=r/\r<=1071))
theorem ZsP (r:Int):ZbG 0 r:=by unfold ZbG;omega
theorem ZA9 (r:Int) (h:ZbG 0 r) (g:¬(65<=r/\r<=90)):ZbG 1 r:=by unfold ZbG at *;omega
theorem ZBa (r:Int) (h:ZbG 1 r) (g:¬(192<=r/\r<=214)):ZbG 2 r:=by unfold ZbG at *;omega
theorem ZBb (r:Int) (h:ZbG 2 r) (g:¬(216<=r/\r<=222)):ZbG 3 r:=by unfold ZbG at *;omega
theorem ZBc (r:Int) (h:ZbG 3 r) (g:¬(913<=r/\r<=929)):ZbG 4 r:=by unfold ZbG at *;omega
theorem ZBd (r:Int) (h:ZbG 4 r) (g:¬(931<=r/\r<=939)):ZbG 5 r:=by unfold ZbG at *;omega
theorem ZBe (r:Int) (h:ZbG 5 r) (g:¬(1024<=r/\r<=1039)):ZbG 6 r:=by unfold ZbG at *;omega
theorem ZBf (r:Int) (h:ZbG 6 r) (g:¬(1040<=r/\r<=1071)):ZbG 7 r:=by unfold ZbG at *;omega
theorem ZvC (r:Int) (h:ZbG 7 r):ZQ r=r:=by unfold ZbG at h;unfold ZQ;(repeat' split)<;>omega
theorem Zyy (r:Int) (g:65<=r/\r<=90):ZQ r=r+32:=by unfold ZQ;(repeat' split)<;>omega
theorem Zyz (r:Int) (g:192<=r/\r<=214):ZQ r=r+32:=by unfold ZQ;(repeat' split)<;>omega
theorem ZyA (r:Int) (g:216<=r/\r<=222):ZQ r=r+32:=by unfold ZQ;(repeat' split)<;>omega
theorem ZyB (r:Int) (g:913<=r/\r<=929):ZQ r=r+32:=by unfold ZQ;(repeat' split)<;>omega
theorem ZyC (r:Int) (g:931<=r/\r<=939):ZQ r=r+32:=by unfold ZQ;(repeat' split)<;>omega
theorem ZyD (r:Int) (g:1024<=r/\r<=1039):ZQ r=r+80:=by unfold ZQ;(repeat' split)<;>omega
theorem ZyE (r:Int) (g:1040<=r/\r<=1071):ZQ r=r+32:=by unfold ZQ;(repeat' split)<;>omega
def Zat (k:Nat) (r:Int):Prop:=(1<=k->¬(48<=r/\r<=57))/\(2<=k->¬(65<=r/\r<=90))/\(3<=k->¬(97<=r/\r<=122))/\(4<=k->¬(192<=r/\r<=214))/\(5<=k->¬(216<=r/\r<=246))/\(6<=k->¬(248<=r/\r<=255))/\(7<=k->¬(913<=r/\r<=929))/\(8<=k->¬(931<=r/\r<=974))/\(9<=k->¬(1024<=r/\r<=1119))
theorem ZrT (r:Int):Zat 0 r:=by unfold Zat;omega
theorem ZzT (r:Int) (h:Zat 0 r) (g:¬(48<=r/\r<=57)):Zat 1 r:=by unfold Zat at *;omega
theorem ZzU (r:Int) (h:Zat 1 r) (g:¬(65<=r/\r<=90)):Zat 2 r:=by unfold Zat at *;omega
theorem ZzV (r:Int) (h:Zat 2 r) (g:¬(97<=r/\r<=122)):Zat 3 r:=by unfold Zat at *;omega
theorem ZzW (r:Int) (h:Zat 3 r) (g:¬(192<=r/\r<=214)):Zat 4 r:=by unfold Zat at *;omega
theorem ZzX (r:Int) (h:Zat 4 r) (g:¬(216<=r/\r<=246)):Zat 5 r:=by unfold Zat at *;omega
theorem ZzY (r:Int) (h:Zat 5 r) (g:¬(248<=r/\r<=255)):Zat 6 r:=by unfold Zat at *;omega
theorem ZzZ (r:Int) (h:Zat 6 r) (g:¬(913<=r/\r<=929)):Zat 7 r:=by unfold Zat at *;omega
theorem Zz0 (r:Int) (h:Zat 7 r) (g:¬(931<=r/\r<=974)):Zat 8 r:=by unfold Zat at *;omega
theorem Zz1 (r:Int) (h:Zat 8 r) (g:¬(1024<=r/\r<=1119)):Zat 9 r:=by unfold Zat at *;omega
theorem ZtA (r:Int) (h:Zat 9 r):ZU r=false:=by unfold Zat at h;unfold ZU;exact Xz (by omega)
theorem ZwC (r:Int) (g:48<=r/\r<=57):ZU r=true:=by unfold ZU;exact Xs (by omega)
theorem ZwD (r:Int) (g:65<=r/\r<=90):ZU r=true:=by unfold ZU;exact Xs (by omega)
theorem ZwE (r:Int) (g:97<=r/\r<=122):ZU r=true:=by unfold ZU;exact Xs (by omega)
theorem ZwF (r:Int) (g:192<=r/\r<=214):ZU r=true:=by unfold ZU;exact Xs (by omega)
theorem ZwG (r:Int) (g:216<=r/\r<=246):ZU r=true:=by unfold ZU;exact Xs (by omega)
theorem ZwH (r:Int) (g:248<=r/\r<=255):ZU r=true:=by unfold ZU;exact Xs (by omega)
theorem ZwI (r:Int) (g:913<=r/\r<=929):ZU r=true:=by unfold ZU;exact Xs (by omega)
theorem ZwJ (r:Int) (g:931<=r/\r<=974):ZU r=true:=by unfold ZU;exact Xs (by omega)
theorem ZwK (r:Int) (g:1024<=r/\r<=1119):ZU r=true:=by unfold ZU;exact Xs (by omega)
theorem Zfg {k:IntKind} {a b:Int} (h:a=b):Ending.returned (.int k a)=.returned (.int k b):=by rw [h]
theorem ZcL {a b:Bool} (h:a=b):Ending.returned (.bool a)=.returned (.bool b):=by rw [h]
theorem ZvF (w:World):(Instr.index 339 (.agg #[.int .i64 65,.int .i64 90,.int .i64 32,.int .i64 192,.int .i64 214,.int .i64 32,.int .i64 216,.int .i64 222,.int .i64 32,.int .i64 913,.int .i64 929,.int .i64 32,.int .i64 931,.int .i64 939,.int .i64 32,.int .i64 1024,.int .i64 1039,.int .i64 80,.int .i64 1040,.int .i64 1071,.int .i64 32]) (.int .i64 0)).run prog w=.ok (.agg #[.int .i64 65,.int .i64 90,.int .i64 32]) w:=by kernel_rfl
theorem ZvG (w:World):(Instr.index 339 (.agg #[.int .i64 65,.int .i64 90,.int .i64 32,.int .i64 192,.int .i64 214,.int .i64 32,.int .i64 216,.int .i64 222,.int .i64 32,.int .i64 913,.int .i64 929,.int .i64 32,.int .i64 931,.int .i64 939,.int .i64 32,.int .i64 1024,.int .i64 1039,.int .i64 80,.int .i64 1040,.int .i64 1071,.int .i64 32]) (.int .i64 1)).run prog w=.ok (.agg #[.int .i64 192,.int .i64 214,.int .i64 32]) w:=by kernel_rfl
theorem ZvH (w:World):(Instr.index 339 (.agg #[.int .i64 65,.int .i64 90,.int .i64 32,.int .i64 192,.int .i64 214,.int .i64 32,.int .i64 216,.int .i64 222,.int .i64 32,.int .i64 913,.int .i64 929,.int .i64 32,.int .i64 931,.int .i64 939,.int .i64 32,.int .i64 1024,.int .i64 1039,.int .i64 80,.int .i64 1040,.int .i64 1071,.int .i64 32]) (.int .i64 2)).run prog w=.ok (.agg #[.int .i64 216,.int .i64 222,.int .i64 32]) w:=by kernel_rfl
theorem ZvI (w:World):(Instr.index 339 (.agg #[.int .i64 65,.int .i64 90,.int .i64 32,.int .i64 192,.int .i64 214,.int .i64 32,.int .i64 216,.int .i64 222,.int .i64 32,.int .i64 913,.int .i64 929,.int .i64 32,.int .i64 931,.int .i64 939,.int .i64 32,.int .i64 1024,.int .i64 1039,.int .i64 80,.int .i64 1040,.int .i64 1071,.int .i64 32]) (.int .i64 3)).run prog w=.ok (.agg #[.int .i64 913,.int .i64 929,.int .i64 32]) w:=by kernel_rfl
theorem ZvJ (w:World):(Instr.index 339 (.agg #[.int .i64 65,.int .i64 90,.int .i64 32,.int .i64 192,.int .i64 214,.int .i64 32,.int .i64 216,.int .i64 222,.int .i64 32,.int .i64 913,.int .i64 929,.int .i64 32,.int .i64 931,.int .i64 939,.int .i64 32,.int .i64 1024,.int .i64 1039,.int .i64 80,.int .i64 1040,.int .i64 1071,.int .i64 32]) (.int .i64 4)).run prog w=.ok (.agg #[.int .i64 931,.int .i64 939,.int .i64 32]) w:=by kernel_rfl
theorem ZvK (w:World):(Instr.index 339 (.agg #[.int .i64 65,.int .i64 90,.int .i64 32,.int .i64 192,.int .i64 214,.int .i64 32,.int .i64 216,.int .i64 222,.int .i64 32,.int .i64 913,.int .i64 929,.int .i64 32,.int .i64 931,.int .i64 939,.int .i64 32,.int .i64 1024,.int .i64 1039,.int .i64 80,.int .i64 1040,.int .i64 1071,.int .i64 32]) (.int .i64 5)).run prog w=.ok (.agg #[.int .i64 1024,.int .i64 1039,.int .i64 80]) w:=by kernel_rfl
theorem ZvL (w:World):(Instr.index 339 (.agg #[.int .i64 65,.int .i64 90,.int .i64 32,.int .i64 192,.int .i64 214,.int .i64 32,.int .i64 216,.int .i64 222,.int .i64 32,.int .i64 913,.int .i64 929,.int .i64 32,.int .i64 931,.int .i64 939,.int .i64 32,.int .i64 1024,.int .i64 1039,.int .i64 80,.int .i64 1040,.int .i64 1071,.int .i64 32]) (.int .i64 6)).run prog w=.ok (.agg #[.int .i64 1040,.int .i64 1071,.int .i64 32]) w:=by kernel_rfl
theorem ZvE (r:Int) (w:World):Calls prog 284 #[.int .i64 r] w fun e w'=>e=.returned (.int .i64 (ZQ r))/\Below w.heap.size w w':=by
 go_enter func284,ntmps284;go_wp2
 go_loopw [13] (fun i wr=>∃k:Nat,k<=7/\i=.int .i64 k/\ZbG k r/\Below w.heap.size w wr) (fun i _=>7 - (intOf i).toNat)
 case atStart=>exact ⟨0,by omega,rfl,ZsP r,Below.refl _ _⟩
 case round =>
  obtain ⟨k,hk,rfl,b,d⟩:=hrel;have c:=d.size;have l:k=0\/k=1\/k=2\/k=3\/k=4\/k=5\/k=6\/k=7:=by omega
  rcases l with rfl|rfl|rfl|rfl|rfl|rfl|rfl|rfl
  ·have j:=ZvF
   by_cases g:65<=r/\r<=90
   ·have e:=Zyy r g;obtain ⟨h,f⟩:=g;have E:=Y4 e;clear e b;go_wp2;go_ret;exact ⟨Zfg (by rw [E.z]),d.alloc c _⟩
   ·have a:=ZA9 r b g;clear b
    by_cases h:65<=r
    ·have f:¬r<=90:=by omega
     clear g;go_wp2;go_roundw
     case rel=>exact ⟨1,by omega,by go_num,a,d.alloc c _⟩
     case measure=>simp [intOf]
    ·clear g;go_wp2;go_roundw
     case rel=>exact ⟨1,by omega,by go_num,a,d.alloc c _⟩
     case measure=>simp [intOf]
  ·have j:=ZvG
   by_cases g:192<=r/\r<=214
   ·have e:=Zyz r g;obtain ⟨h,f⟩:=g;have E:=Y4 e;clear e b;go_wp2;go_ret;exact ⟨Zfg (by rw [E.z]),d.alloc c _⟩
   ·have a:=ZBa r b g;clear b
    by_cases h:192<=r
    ·have f:¬r<=214:=by omega
     clear g;go_wp2;go_roundw
     case rel=>exact ⟨2,by omega,by go_num,a,d.alloc c _⟩
     case measure=>simp [intOf]
    ·clear g;go_wp2;go_roundw
     case rel=>exact ⟨2,by omega,by go_num,a,d.alloc c _⟩
     case measure=>simp [intOf]
  ·have j:=ZvH
   by_cases g:216<=r/\r<=222
   ·have e:=ZyA r g;obtain ⟨h,f⟩:=g;have E:=Y4 e;clear e b;go_wp2;go_ret;exact ⟨Zfg (by rw [E.z]),d.alloc c _⟩
   ·have a:=ZBb r b g;clear b
    by_cases h:216<=r
    ·have f:¬r<=222:=by omega
     clear g;go_wp2;go_roundw
     case rel=>exact ⟨3,by omega,by go_num,a,d.alloc c _⟩
     case measure=>simp [intOf]
    ·clear g;go_wp2;go_roundw
     case rel=>exact ⟨3,by omega,by go_num,a,d.alloc c _⟩
     case measure=>simp [intOf]
  ·have j:=ZvI
   by_cases g:913<=r/\r<=929
   ·have e:=ZyB r g;obtain ⟨h,f⟩:=g;have E:=Y4 e;clear e b;go_wp2;go_ret;exact ⟨Zfg (by rw [E.z]),d.alloc c _⟩
   ·have a:=ZBc r b g;clear b
    by_cases h:913<=r
    ·have f:¬r<=929:=by omega
     clear g;go_wp2;go_roundw
     case rel=>exact ⟨4,by omega,by go_num,a,d.alloc c _⟩
     case measure=>simp [intOf]
    ·clear g;go_wp2;go_roundw
     case rel=>exact ⟨4,by omega,by go_num,a,d.alloc c _⟩
     case measure=>simp [intOf]
  ·have j:=ZvJ
   by_cases g:931<=r/\r<=939
   ·have e:=ZyC r g;obtain ⟨h,f⟩:=g;have E:=Y4 e;clear e b;go_wp2;go_ret;exact ⟨Zfg (by rw [E.z]),d.alloc c _⟩
   ·have a:=ZBd r b g;clear b
    by_cases h:931<=r
    ·have f:¬r<=939:=by omega
     clear g;go_wp2;go_roundw
     case rel=>exact ⟨5,by omega,by go_num,a,d.alloc c _⟩
     case measure=>simp [intOf]
    ·clear g;go_wp2;go_roundw
     case rel=>exact ⟨5,by omega,by go_num,a,d.alloc c _⟩
     case measure=>simp [intOf]
  ·have j:=ZvK
   by_cases g:1024<=r/\r<=1039
   ·have e:=ZyD r g;obtain ⟨h,f⟩:=g;have E:=Y4 e;clear e b;go_wp2;go_ret;exact ⟨Zfg (by rw [E.z]),d.alloc c _⟩
   ·have a:=ZBe r b g;clear b
    by_cases h:1024<=r
    ·have f:¬r<=1039:=by omega
     clear g;go_wp2;go_roundw
     case rel=>exact ⟨6,by omega,by go_num,a,d.alloc c _⟩
     case measure=>simp [intOf]
    ·clear g;go_wp2;go_roundw
     case rel=>exact ⟨6,by omega,by go_num,a,d.alloc c _⟩
     case measure=>simp [intOf]
  ·have j:=ZvL
   by_cases g:1040<=r/\r<=1071
   ·have e:=ZyE r g;obtain ⟨h,f⟩:=g;have E:=Y4 e;clear e b;go_wp2;go_ret;exact ⟨Zfg (by rw [E.z]),d.alloc c _⟩
   ·have a:=ZBf r b g;clear b
    by_cases h:1040<=r
    ·have f:¬r<=1071:=by omega
     clear g;go_wp2;go_roundw
     case rel=>exact ⟨7,by omega,by go_num,a,d.alloc c _⟩
     case measure=>simp [intOf]
    ·clear g;go_wp2;go_roundw
     case rel=>exact ⟨7,by omega,by go_num,a,d.alloc c _⟩
     case measure=>simp [intOf]
  ·have e:=ZvC r b;have E:=Y4 e;clear e b;go_wp2;go_ret;exact ⟨Zfg (by rw [E.z]),d⟩
theorem Zz4 (w:World):(Instr.index 335 (.agg #[.int .i64 48,.int .i64 57,.int .i64 65,.int .i64 90,.int .i64 97,.int .i64 122,.int .i64 192,.int .i64 214,.int .i64 216,.int .i64 246,.int .i64 248,.int .i64 255,.int .i64 913,.int .i64 929,.int .i64 931,.int .i64 974,.int .i64 1024,.int .i64 1119]) (.int .i64 0)).run prog w=.ok (.agg #[.int .i64 48,.int .i64 57]) w:=by kernel_rfl
theorem Zz5 (w:World):(Instr.index 335 (.agg #[.int .i64 48,.int .i64 57,.int .i64 65,.int .i64 90,.int .i64 97,.int .i64 122,.int .i64 192,.int .i64 214,.int .i64 216,.int .i64 246,.int .i64 248,.int .i64 255,.int .i64 913,.int .i64 929,.int .i64 931,.int .i64 974,.int .i64 1024,.int .i64 1119]) (.int .i64 1)).run prog w=.ok (.agg #[.int .i64 65,.int .i64 90]) w:=by kernel_rfl
theorem Zz6 (w:World):(Instr.index 335 (.agg #[.int .i64 48,.int .i64 57,.int .i64 65,.int .i64 90,.int .i64 97,.int .i64 122,.int .i64 192,.int .i64 214,.int .i64 216,.int .i64 246,.int .i64 248,.int .i64 255,.int .i64 913,.int .i64 929,.int .i64 931,.int .i64 974,.int .i64 1024,.int .i64 1119]) (.int .i64 2)).run prog w=.ok (.agg #[.int .i64 97,.int .i64 122]) w:=by kernel_rfl
theorem Zz7 (w:World):(Instr.index 335 (.agg #[.int .i64 48,.int .i64 57,.int .i64 65,.int .i64 90,.int .i64 97,.int .i64 122,.int .i64 192,.int .i64 214,.int .i64 216,.int .i64 246,.int .i64 248,.int .i64 255,.int .i64 913,.int .i64 929,.int .i64 931,.int .i64 974,.int .i64 1024,.int .i64 1119]) (.int .i64 3)).run prog w=.ok (.agg #[.int .i64 192,.int .i64 214]) w:=by kernel_rfl
theorem Zz8 (w:World):(Instr.index 335 (.agg #[.int .i64 48,.int .i64 57,.int .i64 65,.int .i64 90,.int .i64 97,.int .i64 122,.int .i64 192,.int .i64 214,.int .i64 216,.int .i64 246,.int .i64 248,.int .i64 255,.int .i64 913,.int .i64 929,.int .i64 931,.int .i64 974,.int .i64 1024,.int .i64 1119]) (.int .i64 4)).run prog w=.ok (.agg #[.int .i64 216,.int .i64 246]) w:=by kernel_rfl
theorem Zz9 (w:World):(Instr.index 335 (.agg #[.int .i64 48,.int .i64 57,.int .i64 65,.int .i64 90,.int .i64 97,.int .i64 122,.int .i64 192,.int .i64 214,.int .i64 216,.int .i64 246,.int .i64 248,.int .i64 255,.int .i64 913,.int .i64 929,.int .i64 931,.int .i64 974,.int .i64 1024,.int .i64 1119]) (.int .i64 5)).run prog w=.ok (.agg #[.int .i64 248,.int .i64 255]) w:=by kernel_rfl
theorem ZAa (w:World):(Instr.index 335 (.agg #[.int .i64 48,.int .i64 57,.int .i64 65,.int .i64 90,.int .i64 97,.int .i64 122,.int .i64 192,.int .i64 214,.int .i64 216,.int .i64 246,.int .i64 248,.int .i64 255,.int .i64 913,.int .i64 929,.int .i64 931,.int .i64 974,.int .i64 1024,.int .i64 1119]) (.int .i64 6)).run prog w=.ok (.agg #[.int .i64 913,.int .i64 929]) w:=by kernel_rfl
theorem ZAb (w:World):(Instr.index 335 (.agg #[.int .i64 48,.int .i64 57,.int .i64 65,.int .i64 90,.int .i64 97,.int .i64 122,.int .i64 192,.int .i64 214,.int .i64 216,.int .i64 246,.int .i64 248,.int .i64 255,.int .i64 913,.int .i64 929,.int .i64 931,.int .i64 974,.int .i64 1024,.int .i64 1119]) (.int .i64 7)).run prog w=.ok (.agg #[.int .i64 931,.int .i64 974]) w:=by kernel_rfl
theorem ZAc (w:World):(Instr.index 335 (.agg #[.int .i64 48,.int .i64 57,.int .i64 65,.int .i64 90,.int .i64 97,.int .i64 122,.int .i64 192,.int .i64 214,.int .i64 216,.int .i64 246,.int .i64 248,.int .i64 255,.int .i64 913,.int .i64 929,.int .i64 931,.int .i64 974,.int .i64 1024,.int .i64 1119]) (.int .i64 8)).run prog w=.ok (.agg #[.int .i64 1024,.int .i64 1119]) w:=by kernel_rfl
theorem Zz2 (r:Int) (w:World):Calls prog 270 #[.int .i64 r] w fun e w'=>e=.returned (.bool (ZU r))/\Below w.heap.size w w':=by
 go_enter func270,ntmps270;go_wp2
 go_loopw [15] (fun i wr=>∃k:Nat,k<=9/\i=.int .i64 k/\Zat k r/\Below w.heap.size w wr) (fun i _=>9 - (intOf i).toNat)
 case atStart=>exact ⟨0,by omega,rfl,ZrT r,Below.refl _ _⟩
 case round =>
  obtain ⟨k,hk,rfl,b,d⟩:=hrel;have c:=d.size;have l:k=0\/k=1\/k=2\/k=3\/k=4\/k=5\/k=6\/k=7\/k=8\/k=9:=by omega
  rcases l with rfl|rfl|rfl|rfl|rfl|rfl|rfl|rfl|rfl|rfl
  ·have j:=Zz4
   by_cases g:48<=r/\r<=57
   ·have e:=ZwC r g;obtain ⟨h,f⟩:=g;have E:=Y4 e;clear e b;go_wp2;go_ret;exact ⟨ZcL (by rw [E.z]),d.alloc c _⟩
   ·have a:=ZzT r b g;clear b
    by_cases h:48<=r
    ·have f:¬r<=57:=by omega
     clear g;go_wp2;go_roundw
     case rel=>exact ⟨1,by omega,by go_num,a,d.alloc c _⟩
     case measure=>simp [intOf]
    ·clear g;go_wp2;go_roundw
     case rel=>exact ⟨1,by omega,by go_num,a,d.alloc c _⟩
     case measure=>simp [intOf]
  ·have j:=Zz5
   by_cases g:65<=r/\r<=90
   ·have e:=ZwD r g;obtain ⟨h,f⟩:=g;have E:=Y4 e;clear e b;go_wp2;go_ret;exact ⟨ZcL (by rw [E.z]),d.alloc c _⟩
   ·have a:=ZzU r b g;clear b
    by_cases h:65<=r
    ·have f:¬r<=90:=by omega
     clear g;go_wp2;go_roundw
     case rel=>exact ⟨2,by omega,by go_num,a,d.alloc c _⟩
     case measure=>simp [intOf]
    ·clear g;go_wp2;go_roundw
     case rel=>exact ⟨2,by omega,by go_num,a,d.alloc c _⟩
     case measure=>simp [intOf]
  ·have j:=Zz6
   by_cases g:97<=r/\r<=122
   ·have e:=ZwE r g;obtain ⟨h,f⟩:=g;have E:=Y4 e;clear e b;go_wp2;go_ret;exact ⟨ZcL (by rw [E.z]),d.alloc c _⟩
   ·have a:=ZzV r b g;clear b
    by_cases h:97<=r
    ·have f:¬r<=122:=by omega
     clear g;go_wp2;go_roundw
     case rel=>exact ⟨3,by omega,by go_num,a,d.alloc c _⟩
     case measure=>simp [intOf]
    ·clear g;go_wp2;go_roundw
     case rel=>exact ⟨3,by omega,by go_num,a,d.alloc c _⟩
     case measure=>simp [intOf]
  ·have j:=Zz7
   by_cases g:192<=r/\r<=214
   ·have e:=ZwF r g;obtain ⟨h,f⟩:=g;have E:=Y4 e;clear e b;go_wp2;go_ret;exact ⟨ZcL (by rw [E.z]),d.alloc c _⟩
   ·have a:=ZzW r b g;clear b
    by_cases h:192<=r
    ·have f:¬r<=214:=by omega
     clear g;go_wp2;go_roundw
     case rel=>exact ⟨4,by omega,by go_num,a,d.alloc c _⟩
     case measure=>simp [intOf]
    ·clear g;go_wp2;go_roundw
     case rel=>exact ⟨4,by omega,by go_num,a,d.alloc c _⟩
     case measure=>simp [intOf]
  ·have j:=Zz8
   by_cases g:216<=r/\r<=246
   ·have e:=ZwG r g;obtain ⟨h,f⟩:=g;have E:=Y4 e;clear e b;go_wp2;go_ret;exact ⟨ZcL (by rw [E.z]),d.alloc c _⟩
   ·have a:=ZzX r b g;clear b
    by_cases h:216<=r
    ·have f:¬r<=246:=by omega
     clear g;go_wp2;go_roundw
     case rel=>exact ⟨5,by omega,by go_num,a,d.alloc c _⟩
     case measure=>simp [intOf]
    ·clear g;go_wp2;go_roundw
     case rel=>exact ⟨5,by omega,by go_num,a,d.alloc c _⟩
     case measure=>simp [intOf]
  ·have j:=Zz9
   by_cases g:248<=r/\r<=255
   ·have e:=ZwH r g;obtain ⟨h,f⟩:=g;have E:=Y4 e;clear e b;go_wp2;go_ret;exact ⟨ZcL (by rw [E.z]),d.alloc c _⟩
   ·have a:=ZzY r b g;clear b
    by_cases h:248<=r
    ·have f:¬r<=255:=by omega
     clear g;go_wp2;go_roundw
     case rel=>exact ⟨6,by omega,by go_num,a,d.alloc c _⟩
     case measure=>simp [intOf]
    ·clear g;go_wp2;go_roundw
     case rel=>exact ⟨6,by omega,by go_num,a,d.alloc c _⟩
     case measure=>simp [intOf]
  ·have j:=ZAa
   by_cases g:913<=r/\r<=929
   ·have e:=ZwI r g;obtain ⟨h,f⟩:=g;have E:=Y4 e;clear e b;go_wp2;go_ret;exact ⟨ZcL (by rw [E.z]),d.alloc c _⟩
   ·have a:=ZzZ r b g;clear b
    by_cases h:913<=r
    ·have f:¬r<=929:=by omega
     clear g;go_wp2;go_roundw
     case rel=>exact ⟨7,by omega,by go_num,a,d.alloc c _⟩
     case measure=>simp [intOf]
    ·clear g;go_wp2;go_roundw
     case rel=>exact ⟨7,by omega,by go_num,a,d.alloc c _⟩
     case measure=>simp [intOf]
  ·have j:=ZAb
   by_cases g:931<=r/\r<=974
   ·have e:=ZwJ r g;obtain ⟨h,f⟩:=g;have E:=Y4 e;clear e b;go_wp2;go_ret;exact ⟨ZcL (by rw [E.z]),d.alloc c _⟩
   ·have a:=Zz0 r b g;clear b
    by_cases h:931<=r
    ·have f:¬r<=974:=by omega
     clear g;go_wp2;go_roundw
     case rel=>exact ⟨8,by omega,by go_num,a,d.alloc c _⟩
     case measure=>simp [intOf]
    ·clear g;go_wp2;go_roundw
     case rel=>exact ⟨8,by omega,by go_num,a,d.alloc c _⟩
     case measure=>simp [intOf]
  ·have j:=ZAc
   by_cases g:1024<=r/\r<=1119
   ·have e:=ZwK r g;obtain ⟨h,f⟩:=g;have E:=Y4 e;clear e b;go_wp2;go_ret;exact ⟨ZcL (by rw [E.z]),d.alloc c _⟩
   ·have a:=Zz1 r b g;clear b
    by_cases h:1024<=r
    ·have f:¬r<=1119:=by omega
     clear g;go_wp2;go_roundw
     case rel=>exact ⟨9,by omega,by go_num,a,d.alloc c _⟩
     case measure=>simp [intOf]
    ·clear g;go_wp2;go_roundw
     case rel=>exact ⟨9,by omega,by go_num,a,d.alloc c _⟩
     case measure=>simp [intOf]
  ·have e:=ZtA r b;have E:=Y4 e;clear e b;go_wp2;go_ret;exact ⟨ZcL (by rw [E.z]),d⟩
theorem Ztb (r:Int) (w:World):Calls prog 180 #[.int .i64 r] w fun e w'=>e=.returned (.int .i64 (ZQ r))/\w=w':=by
 rcases (by omega:r<=64\/(65<=r/\r<=90)\/(91<=r/\r<=191)\/(192<=r/\r<=214)\/(215<=r/\r<=215)\/(216<=r/\r<=222)\/(223<=r/\r<=912)\/(913<=r/\r<=929)\/(930<=r/\r<=930)\/(931<=r/\r<=939)\/(940<=r/\r<=1023)\/(1024<=r/\r<=1039)\/(1040<=r/\r<=1071)\/1072<=r) with g|g|g|g|g|g|g|g|g|g|g|g|g|g
 all_goals
  first|(have k:(r == 215)=false:=by simp;omega)|(have k:(r == 215)=true:=by simp;omega)
  first|(have i:(r != 215)=false:=by simp;omega)|(have i:(r != 215)=true:=by simp;omega)
  first|(have j:(r == 930)=false:=by simp;omega)|(have j:(r == 930)=true:=by simp;omega)
  first|(have h:(r != 930)=false:=by simp;omega)|(have h:(r != 930)=true:=by simp;omega)
  first|(have p:decide ((65:Int)<=r)=false:=by simp;omega)|(have p:decide ((65:Int)<=r)=true:=by simp;omega)
  first|(have n:decide ((192:Int)<=r)=false:=by simp;omega)|(have n:decide ((192:Int)<=r)=true:=by simp;omega)
  first|(have l:decide ((913:Int)<=r)=false:=by simp;omega)|(have l:decide ((913:Int)<=r)=true:=by simp;omega)
  first|(have a:decide ((1040:Int)<=r)=false:=by simp;omega)|(have a:decide ((1040:Int)<=r)=true:=by simp;omega)
  first|(have d:decide ((1024:Int)<=r)=false:=by simp;omega)|(have d:decide ((1024:Int)<=r)=true:=by simp;omega)
  first|(have o:decide (r<=(90:Int))=false:=by simp;omega)|(have o:decide (r<=(90:Int))=true:=by simp;omega)
  first|(have f:decide (r<=(222:Int))=false:=by simp;omega)|(have f:decide (r<=(222:Int))=true:=by simp;omega)
  first|(have m:decide (r<=(939:Int))=false:=by simp;omega)|(have m:decide (r<=(939:Int))=true:=by simp;omega)
  first|(have b:decide (r<=(1071:Int))=false:=by simp;omega)|(have b:decide (r<=(1071:Int))=true:=by simp;omega)
  first|(have c:decide (r<=(1039:Int))=false:=by simp;omega)|(have c:decide (r<=(1039:Int))=true:=by simp;omega)
  try have z0:0<=r:=by omega
  try have z1:r<=2000:=by omega
  first|(have e:ZQ r=r:=(by unfold ZQ;omega);rw [e])|(have e:ZQ r=r+32:=(by unfold ZQ;omega);rw [e])|(have e:ZQ r=r+80:=(by unfold ZQ;omega);rw [e])
  clear e g;go_enter func180,ntmps180;go_wp2;go_ret;exact ⟨rfl,rfl⟩
theorem Zwf (r:Int) (w:World):Calls prog 120 #[.int .i64 r] w fun e w'=>e=.returned (.bool (ZU r))/\w=w':=by
 rcases (by omega:r<=47\/(48<=r/\r<=57)\/(58<=r/\r<=64)\/(65<=r/\r<=90)\/(91<=r/\r<=96)\/(97<=r/\r<=122)\/(123<=r/\r<=191)\/(192<=r/\r<=214)\/(215<=r/\r<=215)\/(216<=r/\r<=246)\/(247<=r/\r<=247)\/(248<=r/\r<=255)\/(256<=r/\r<=912)\/(913<=r/\r<=929)\/(930<=r/\r<=930)\/(931<=r/\r<=974)\/(975<=r/\r<=1023)\/(1024<=r/\r<=1119)\/1120<=r) with g|g|g|g|g|g|g|g|g|g|g|g|g|g|g|g|g|g|g
 all_goals
  first|(have m:(r == 215)=false:=by simp;omega)|(have m:(r == 215)=true:=by simp;omega)
  first|(have n:(r != 215)=false:=by simp;omega)|(have n:(r != 215)=true:=by simp;omega)
  first|(have d:(r == 247)=false:=by simp;omega)|(have d:(r == 247)=true:=by simp;omega)
  first|(have h:(r != 247)=false:=by simp;omega)|(have h:(r != 247)=true:=by simp;omega)
  first|(have i:(r == 930)=false:=by simp;omega)|(have i:(r == 930)=true:=by simp;omega)
  first|(have c:(r != 930)=false:=by simp;omega)|(have c:(r != 930)=true:=by simp;omega)
  first|(have q:decide ((48:Int)<=r)=false:=by simp;omega)|(have q:decide ((48:Int)<=r)=true:=by simp;omega)
  first|(have u:decide ((65:Int)<=r)=false:=by simp;omega)|(have u:decide ((65:Int)<=r)=true:=by simp;omega)
  first|(have s:decide ((97:Int)<=r)=false:=by simp;omega)|(have s:decide ((97:Int)<=r)=true:=by simp;omega)
  first|(have l:decide ((192:Int)<=r)=false:=by simp;omega)|(have l:decide ((192:Int)<=r)=true:=by simp;omega)
  first|(have k:decide ((913:Int)<=r)=false:=by simp;omega)|(have k:decide ((913:Int)<=r)=true:=by simp;omega)
  first|(have a:decide ((1024:Int)<=r)=false:=by simp;omega)|(have a:decide ((1024:Int)<=r)=true:=by simp;omega)
  first|(have t:decide (r<=(57:Int))=false:=by simp;omega)|(have t:decide (r<=(57:Int))=true:=by simp;omega)
  first|(have p:decide (r<=(90:Int))=false:=by simp;omega)|(have p:decide (r<=(90:Int))=true:=by simp;omega)
  first|(have f:decide (r<=(122:Int))=false:=by simp;omega)|(have f:decide (r<=(122:Int))=true:=by simp;omega)
  first|(have o:decide (r<=(255:Int))=false:=by simp;omega)|(have o:decide (r<=(255:Int))=true:=by simp;omega)
  first|(have j:decide (r<=(974:Int))=false:=by simp;omega)|(have j:decide (r<=(974:Int))=true:=by simp;omega)
  first|(have b:decide (r<=(1119:Int))=false:=by simp;omega)|(have b:decide (r<=(1119:Int))=true:=by simp;omega)
  first|(have e:ZU r=false:=(by unfold ZU;exact Xz (by omega));rw [e])|(have e:ZU r=true:=(by unfold ZU;exact Xs (by omega));rw [e])
  clear e g;go_enter func120,ntmps120;go_wp2;go_ret;exact ⟨rfl,rfl⟩
