import Derived.Test.YtdijhifdjbnkfaaGreatZT1
import Derived.Lib.ValidLaws
import Derived.Test.YtdijhifdjbnkfaaGreatProg
import Derived.WalkKit
import Derived.Lib.Hide
set_option maxRecDepth 100000
set_option maxHeartbeats 0
set_option linter.unusedVariables false
set_option linter.unusedSimpArgs false
namespace Go.Proofs.YtdijhifdjbnkfaaGreat
open Lib (hid)
open Tryz
namespace UM
open Go.Lib
def Zdi:Nat->Xu->List Int
 | 0,_=>[]
 | n+1,l=>if l=[] then [] else ((decodeL l).1:Int)::Zdi n (l.drop (decodeL l).2)
def runesL (l:Xu):List Int:=Zdi l.length l
theorem Zjx:∀(n m:Nat) (l:Xu),l.length<=n->l.length<=m->Zdi n l=Zdi m l
 | 0,0,l,_,_=>rfl
 | 0,m+1,l,h,_=>by
   have:l=[]:=XO (by omega);simp [Zdi,this]
 | n+1,0,l,_,h=>by
   have:l=[]:=XO (by omega);simp [Zdi,this]
 | n+1,m+1,l,h,k=>by
   unfold Zdi
   by_cases e:l=[]
   ·simp [e]
   ·have hw:=decodeL_width l;have hl:0<l.length:=Xac.2 e;rw [Xa e,Xa e,Zjx n m _ (by rw [Xj];omega) (by rw [Xj];omega)]
theorem ZsM:runesL []=[]:=rfl
theorem ZkV (l:Xu) (a:l≠[]):runesL l=((decodeL l).1:Int)::runesL (l.drop (decodeL l).2):=by
 have hl:0<l.length:=Xac.2 a;have hw:=decodeL_width l;obtain ⟨n,b⟩:∃n,l.length=n+1:=⟨l.length - 1,by omega⟩;unfold runesL;rw [b,Zdi,Xa a,Zjx n (l.drop (decodeL l).2).length _ (by rw [Xj];omega) (Xc _)]
theorem ZfC (l:Xu):(runesL l).length<=l.length:=by
 suffices h:∀n l,(Zdi n l).length<=n from h _ _
 intro n
 induction n with
 | zero=>intro l;simp [Zdi]
 | succ n ih =>
   intro l;unfold Zdi
   split
   ·simp
   ·have:=ih (l.drop (decodeL l).2);simp;omega
def norm (r:Int):Int:=if r<0\/(55296<=r/\r<=57343)\/1114111<r then 65533 else r
def ZV (rs:List Int):Xu:=rs.flatMap encodeRune
theorem Zxd:ZV []=[]:=rfl
theorem ZjS (r:Int) (rs:List Int):ZV (r::rs)=encodeRune r++ZV rs:=rfl
theorem Zp9 (a b:List Int):ZV (a++b)=ZV a++ZV b:=by simp [ZV]
theorem Zqa (rs:List Int):(ZV rs).length<=4*rs.length:=by
 induction rs with
 | nil=>simp [ZV]
 | cons r t ih =>
   have:=(encodeRuneZ_length r).2;have h2:(encodeRune r).length=(encodeRuneZ r).length:=by simp [encodeRune]
   rw [ZjS,Xd,Xh];omega
theorem Zof (r:Int):(0<=norm r/\norm r<55296)\/(57343<norm r/\norm r<=1114111):=by unfold norm;split<;>omega
theorem Zjf (r:Int) (h:(0<=r/\r<55296)\/(57343<r/\r<=1114111)):norm r=r:=by unfold norm;rw [Xa (by omega)]
theorem ZfJ (r:Int):encodeRuneZ (norm r)=encodeRuneZ r:=by
 unfold norm
 split
 ·rename_i h;rw [encodeRuneZ_bad h];decide
 ·rfl
theorem Zp5 (n b1:Nat) (r b a:Nat) (h0:128<=r) (h1:r<=2047) (hn:2<=n):decodeN n (192+r / 64) (128+r%64) b a=(r,2):=by
 unfold decodeN;rw [Xa (by omega),Xe (by omega),Xe (by omega)];congr 1
 omega
theorem Znh (n:Nat) (r a:Nat) (h:(2048<=r/\r<55296)\/(57343<r/\r<=65535)) (hn:3<=n):decodeN n (224+r / 4096) (128+r / 64%64) (128+r%64) a=(r,3):=by
 have e:(224+r / 4096)%16*4096+(128+r / 64%64)%64*64+(128+r%64)%64=r:=by omega
 unfold decodeN;rw [e,Xa (by omega),Xa (by omega),Xe (by omega),Xe (by omega)]
theorem Zo0 (n:Nat) (r:Nat) (h0:65536<=r) (h1:r<=1114111) (hn:4<=n):decodeN n (240+r / 262144) (128+r / 4096%64) (128+r / 64%64) (128+r%64)=(r,4):=by
 have e:(240+r / 262144)%8*262144+(128+r / 4096%64)%64*4096+(128+r / 64%64)%64*64+(128+r%64)%64=r:=by omega
 unfold decodeN;rw [e,Xa (by omega),Xa (by omega),Xa (by omega),Xe (by omega),Xe (by omega)]
theorem byte_toNat (x:Int) (h0:0<=x) (h1:x<256):(x.toNat.toUInt8).toNat=x.toNat:=by
 simp;omega
theorem Zl2 (r:Int) (t:Xu):decodeL (encodeRune r++t)=((norm r).toNat,(encodeRune r).length):=by
 have a:∀q:Int,((0<=q/\q<55296)\/(57343<q/\q<=1114111))->decodeL (encodeRune q++t)=(q.toNat,(encodeRune q).length):=by
  intro q hq;rw [decodeL_N]
  by_cases c1:q<=127
  ·have e:encodeRune q=[q.toNat.toUInt8]:=by unfold encodeRune;rw [encodeRuneZ_one (by omega) c1];rfl
   rw [e];simp only [XJ,Xz,Xh,Xm,List.getD_cons_zero,List.getD_cons_succ];rw [byte_toNat q (by omega) (by omega),decodeN,Xe (by omega)]
  ·by_cases c2:q<=2047
   ·have e:encodeRune q=[(192+q / 64).toNat.toUInt8,(128+q%64).toNat.toUInt8]:=by unfold encodeRune;rw [encodeRuneZ_two (by omega) c2];rfl
    rw [e];simp only [XJ,Xz,Xh,Xm,List.getD_cons_zero,List.getD_cons_succ];rw [byte_toNat _ (by omega) (by omega),byte_toNat _ (by omega) (by omega)];rw [show (192+q / 64).toNat=192+q.toNat / 64 by omega,show (128+q%64).toNat=128+q.toNat%64 by omega];exact Zp5 _ 0 _ _ _ (by omega) (by omega) (by omega)
   ·by_cases c3:q<=65535
    ·have e:encodeRune q=[(224+q / 4096).toNat.toUInt8,(128+q / 64%64).toNat.toUInt8,(128+q%64).toNat.toUInt8]:=by unfold encodeRune;rw [encodeRuneZ_three (by omega)];rfl
     rw [e];simp only [XJ,Xz,Xh,Xm,List.getD_cons_zero,List.getD_cons_succ];rw [byte_toNat _ (by omega) (by omega),byte_toNat _ (by omega) (by omega),byte_toNat _ (by omega) (by omega)];rw [show (224+q / 4096).toNat=224+q.toNat / 4096 by omega,show (128+q / 64%64).toNat=128+q.toNat / 64%64 by omega,show (128+q%64).toNat=128+q.toNat%64 by omega];exact Znh _ _ _ (by omega) (by omega)
    ·have e:encodeRune q=[(240+q / 262144).toNat.toUInt8,(128+q / 4096%64).toNat.toUInt8,(128+q / 64%64).toNat.toUInt8,(128+q%64).toNat.toUInt8]:=by unfold encodeRune;rw [encodeRuneZ_four (by omega) (by omega)];rfl
     rw [e];simp only [XJ,Xz,Xh,Xm,List.getD_cons_zero,List.getD_cons_succ];rw [byte_toNat _ (by omega) (by omega),byte_toNat _ (by omega) (by omega),byte_toNat _ (by omega) (by omega),byte_toNat _ (by omega) (by omega)];rw [show (240+q / 262144).toNat=240+q.toNat / 262144 by omega,show (128+q / 4096%64).toNat=128+q.toNat / 4096%64 by omega,show (128+q / 64%64).toNat=128+q.toNat / 64%64 by omega,show (128+q%64).toNat=128+q.toNat%64 by omega];exact Zo0 _ _ (by omega) (by omega) (by omega)
 have e:encodeRune r=encodeRune (norm r):=by unfold encodeRune;rw [ZfJ]
 rw [e];exact a (norm r) (Zof r)
theorem Znj (r:Int):encodeRune r≠[]:=by
 have:=(encodeRuneZ_length r).1;intro h;have a:(encodeRune r).length=(encodeRuneZ r).length:=by simp [encodeRune]
 rw [h] at a;simp at a;omega
theorem ZvJ (rs:List Int):runesL (ZV rs)=rs.map norm:=by
 induction rs with
 | nil=>rfl
 | cons r t ih =>
   rw [ZjS,ZkV _ (by simp [Znj]),Zl2];simp only [Xau,ih,XF];congr 1
   have:=Zof r;omega
theorem Zp6 (l:Xu) (m:l≠[]):((decodeL l).1=65533/\(decodeL l).2=1)\/encodeRune ((decodeL l).1:Int)=l.take (decodeL l).2:=by
 have g:0<l.length:=Xac.2 m
 have b:∀k,k<l.length->l.take (k+1)=l.take k++[l.getD k 0]:=by
  intro k q;rw [XG q];simp [List.getD,q]
 have a:∀(x:UInt8) (n:Nat),x.toNat=n->n.toUInt8=x:=by
  intro x n h;subst h;simp
 rw [decodeL_N];generalize f:l.getD 0 0=c;generalize j:l.getD 1 0=e;generalize p:l.getD 2 0=i;generalize r:l.getD 3 0=o;have y0:c.toNat<256:=c.toNat_lt;have y1:e.toNat<256:=e.toNat_lt;have y2:i.toNat<256:=i.toNat_lt;have y3:o.toNat<256:=o.toNat_lt;unfold decodeN
 by_cases c0:c.toNat<128
 ·right;rw [Xe c0]
  show encodeRune _=_
  unfold encodeRune;rw [encodeRuneZ_one (by omega) (by omega),b 0 g,f];simp
 ·rw [Xa c0]
  by_cases c1:c.toNat / 32=6/\(1<l.length/\e.toNat / 64=2)
  ·rw [Xe c1]
   by_cases d:c.toNat%32*64+e.toNat%64>=128
   ·right;rw [Xe d]
    show encodeRune _=_
    unfold encodeRune;rw [encodeRuneZ_two (by omega) (by omega),b 1 (by omega),b 0 g,f,j];simp only [XF,XV,XaJ,Xz,XJ,Xa6,and_true];exact ⟨a _ _ (by omega),a _ _ (by omega)⟩
   ·left;rw [Xa d];exact ⟨rfl,rfl⟩
  ·rw [Xa c1]
   by_cases c2:c.toNat / 16=14/\(1<l.length/\e.toNat / 64=2)/\(2<l.length/\i.toNat / 64=2)
   ·rw [Xe c2]
    split
    ·right
     show encodeRune _=_
     unfold encodeRune;rw [encodeRuneZ_three (by omega),b 2 (by omega),b 1 (by omega),b 0 g,f,j,p];simp only [XF,XV,XaJ,Xz,XJ,Xa6,and_true];exact ⟨a _ _ (by omega),a _ _ (by omega),a _ _ (by omega)⟩
    ·left;exact ⟨rfl,rfl⟩
   ·rw [Xa c2]
    by_cases c3:c.toNat / 8=30/\(1<l.length/\e.toNat / 64=2)/\(2<l.length/\i.toNat / 64=2)/\(3<l.length/\o.toNat / 64=2)
    ·rw [Xe c3]
     split
     ·right
      show encodeRune _=_
      unfold encodeRune;rw [encodeRuneZ_four (by omega) (by omega),b 3 (by omega),b 2 (by omega),b 1 (by omega),b 0 g,f,j,p,r];simp only [XF,XV,XaJ,Xz,XJ,Xa6,and_true];exact ⟨a _ _ (by omega),a _ _ (by omega),a _ _ (by omega),a _ _ (by omega)⟩
     ·left;exact ⟨rfl,rfl⟩
    ·rw [Xa c3];left;exact ⟨rfl,rfl⟩
def ZR (r:Int):Int :=
 if (65<=r/\r<=90)\/(192<=r/\r<=222/\r≠215)\/(913<=r/\r<=939/\r≠930)\/(1040<=r/\r<=1071) then r+32
 else if 1024<=r/\r<=1039 then r+80 else r
def ZU (r:Int):Bool :=
 decide ((48<=r/\r<=57)\/(65<=r/\r<=90)\/(97<=r/\r<=122)\/(192<=r/\r<=255/\r≠215/\r≠247)\/(913<=r/\r<=974/\r≠930)\/(1024<=r/\r<=1119))
theorem ZqC (r:Int):ZR (ZR r)=ZR r:=by unfold ZR;repeat' split;all_goals omega
end UM
namespace TK
open Go.Lib UM
variable {p zs:List Int} {r:Int}
def Zfz (r:Int):Xu:=encodeRune (ZR r)
def ZeK:Nat->List Int->Xu
 | _,[]=>[]
 | m,r::t=>if (Zfz r).length<=m then Zfz r++ZeK (m - (Zfz r).length) t else []
def Zfw (row:List Int):Xu:=ZeK 32 row
def Zdl (row:List Int):Xu:=ZV (row.map ZR)
theorem ZeU:Zdl []=[]:=rfl
theorem Zey (r:Int) (t:List Int):Zdl (r::t)=Zfz r++Zdl t:=rfl
theorem ZAj (r:Int):1<=(encodeRune r).length/\(encodeRune r).length<=4:=by
 have:=encodeRuneZ_length r;have h2:(encodeRune r).length=(encodeRuneZ r).length:=by simp [encodeRune]
 omega
theorem Zjb (r:Int):1<=(Zfz r).length/\(Zfz r).length<=4:=ZAj _
theorem Zx3 (l:List Int):l.length<=(Zdl l).length/\(Zdl l).length<=4*l.length:=by
 induction l with
 | nil=>simp [Zdl,ZV]
 | cons r t ih =>
   have:=Zjb r;rw [Zey,Xd,Xh];omega
theorem Zl0:∀(l:List Int) (m n:Nat),n<=l.length->(Zdl (l.take n)).length<=m->(n=l.length\/m<(Zdl (l.take (n+1))).length)->ZeK m l=Zdl (l.take n)
 | [],m,n,h,_,_=>by simp [ZeK,Zdl,ZV]
 | r::t,m,0,h,h1,a=>by
   have:=Zjb r;rcases a with a|a
   ·simp at a
   ·simp [Zey,ZeU] at a;rw [ZeK,Xa (by omega)];simp [ZeU]
 | r::t,m,n+1,h,h1,a=>by
   simp [Zey] at h1 a h;rw [ZeK,Xe (by omega),Xaz,Zey,Zl0 t (m - (Zfz r).length) n h (by omega) (by omega)]
theorem ZnJ (l:List Int) (n:Nat) (h:n<=l.length) (a:(Zdl (l.take n)).length<=32) (b:n=l.length\/32<(Zdl (l.take (n+1))).length):Zfw l=Zdl (l.take n) :=
 Zl0 l 32 n h a b
theorem ZlZ:∀(l:List Int) (m:Nat),∃n,n<=l.length/\ZeK m l=Zdl (l.take n)/\(Zdl (l.take n)).length<=m/\(4<=m->l≠[]->1<=n)
 | [],m=>⟨0,by simp,by simp [ZeK,ZeU],by simp [ZeU],fun _ h=>absurd rfl h⟩
 | r::t,m=>by
   have h4:=Zjb r
   by_cases a:(Zfz r).length<=m
   ·obtain ⟨n,h0,b,h2,_⟩:=ZlZ t (m - (Zfz r).length);refine ⟨n+1,by simp;omega,?_,?_,fun _ _=>by omega⟩
    ·rw [ZeK,Xe a,b,Xaz,Zey]
    ·rw [Xaz,Zey,Xd];omega
   ·refine ⟨0,by simp,?_,by simp [ZeU],fun h=>by omega⟩;rw [ZeK,Xa a];simp [ZeU]
theorem Zul (l:List Int):∃n,n<=l.length/\Zfw l=Zdl (l.take n)/\(Zdl (l.take n)).length<=32/\(l≠[]->1<=n):=by
 obtain ⟨n,a,c,d,b⟩:=ZlZ l 32;exact ⟨n,a,c,d,b (by omega)⟩
def one (l:List Int):List (List Int):=if l=[] then [] else [l]
def ZcC:List Int->List Int->List (List Int)
 | acc,[]=>one acc
 | acc,r::t=>if ZU r=true then ZcC (acc++[r]) t else one acc++ZcC [] t
def Zjv (l:List Int):List (List Int):=ZcC [] l
def Zbi (l:List Int):List Xu:=(Zjv l).map Zfw
def Z6 (b:Xu):List Xu:=Zbi (runesL b)
theorem Zpg:one []=[]:=rfl
theorem Zpf {l:List Int} (h:l≠[]):one l=[l]:=by simp [one,h]
theorem Zhq:∀(p acc t:List Int),(∀r∈p,ZU r=true)->ZcC acc (p++t)=ZcC (acc++p) t
 | [],acc,t,_=>by simp
 | r::p,acc,t,h=>by
   rw [XJ,ZcC,Xe (h r (by simp)),Zhq p _ t (fun x a=>h x (by simp [a])),Xl];rfl
theorem Zkg (h:∀r∈p,ZU r=true):Zjv p=one p:=by
 have:=Zhq p [] [] h;rw [XI] at this;rw [Zjv,this,Xz];rfl
theorem ZiF {t:List Int} (h:∀r∈p,ZU r=true) (a:ZU r=false):Zjv (p++r::t)=one p++Zjv t:=by
 rw [Zjv,Zhq p [] _ h,Xz,ZcC,Xa (by simp [a])];rfl
theorem Zgy:∀(l acc:List Int),(∀r∈acc,ZU r=true)->∀p∈ZcC acc l,p≠[]/\∀r∈p,ZU r=true
 | [],acc,h,p,a=>by
   unfold ZcC one at a
   split at a
   ·simp at a
   ·simp at a;subst a;exact ⟨by assumption,h⟩
 | r::t,acc,h,p,a=>by
   unfold ZcC at a
   split at a
   ·rename_i c;exact Zgy t _ (fun x b=>by simp at b;rcases b with b|b;exact h x b;subst b;exact c) p a
   ·rw [Xak] at a;rcases a with a|a
    ·unfold one at a
     split at a
     ·simp at a
     ·simp at a;subst a;exact ⟨by assumption,h⟩
    ·exact Zgy t [] (by simp) p a
theorem ZsH (l:List Int):∀p∈Zjv l,p≠[]/\∀r∈p,ZU r=true:=Zgy l [] (by simp)
theorem ZfB:∀(l acc:List Int),(ZcC acc l).length<=acc.length+l.length
 | [],acc=>by
   unfold ZcC one
   split
   ·simp
   ·rename_i h;have:=Xac.2 h;simp;omega
 | r::t,acc=>by
   unfold ZcC
   split
   ·have:=ZfB t (acc++[r]);simp at this;simp;omega
   ·have:=ZfB t []
    have h1:(one acc).length<=acc.length:=by
     unfold one
     split
     ·simp
     ·rename_i h;have:=Xac.2 h;simp;omega
    simp at this;simp;omega
theorem Zpu (l:List Int):(Zbi l).length<=l.length:=by
 have:=ZfB l [];simp at this;unfold Zbi Zjv;rw [XE];exact this
theorem Zam (b:Xu):(Z6 b).length<=b.length:=Xx (Zpu _) (ZfC b)
theorem Zrp (r:Int):ZU (ZR r)=ZU r:=by
 unfold ZU ZR;repeat' split
 all_goals first|rfl|(congr 1;simp;omega)
theorem Zvd (h:ZU r=true):norm r=r:=by
 unfold ZU at h;simp at h;exact Zjf r (by omega)
def Good (zs:List Int):Prop:=zs≠[]/\(∀z∈zs,ZU z=true)/\(∀z∈zs,ZR z=z)/\(ZV zs).length<=32
theorem Good.norm (h:Good zs):zs.map norm=zs:=by
 have:∀z∈zs,UM.norm z=z:=fun z a=>Zvd (h.2.1 z a);rw [List.map_congr_left this,List.map_id''];intro;rfl
theorem Good.low (h:Good zs):Zdl zs=ZV zs:=by
 have:∀z∈zs,ZR z=id z:=h.2.2.1;unfold Zdl;rw [List.map_congr_left this,List.map_id]
theorem Good.cut (h:Good zs):Zfw zs=ZV zs:=by
 rw [ZnJ zs zs.length (Xc _) (by rw [XC,h.low];exact h.2.2.2) (.inl rfl),XC,h.low]
theorem Good.self (h:Good zs):Z6 (ZV zs)=[ZV zs]:=by
 unfold Z6 Zbi;rw [ZvJ,h.norm,Zkg h.2.1,Zpf h.1,Xbs,h.cut]
theorem Zqn (a:p≠[]) (h:∀r∈p,ZU r=true):∃zs,Good zs/\Zfw p=ZV zs:=by
 obtain ⟨n,hn,i,d,g⟩:=Zul p;refine ⟨(p.take n).map ZR,⟨?_,?_,?_,d⟩,i⟩
 ·have:=g a;have hp:=Xac.2 a;intro e;have f:=Xp List.length e;rw [XE,Xi,Xm] at f;omega
 ·intro z b;obtain ⟨r,c,rfl⟩:=XY.1 b;rw [Zrp];exact h r (Xaq c)
 ·intro z b;obtain ⟨r,c,rfl⟩:=XY.1 b;exact ZqC r
theorem Zs4 (l:List Int):∃Z:List (List Int),Zbi l=Z.map ZV/\∀zs∈Z,Good zs:=by
 unfold Zbi;have b:=ZsH l;generalize Zjv l=P at b
 induction P with
 | nil=>exact ⟨[],rfl,by simp⟩
 | cons p P ih =>
   obtain ⟨Z,c,f⟩:=ih (fun q a=>b q (by simp [a]));obtain ⟨zs,d,e⟩:=Zqn (b p (by simp)).1 (b p (by simp)).2;exact ⟨zs::Z,by rw [XF,XF,c,e],fun q a=>by simp at a;rcases a with rfl|a;exact d;exact f q a⟩
theorem ZhY (l:Xu):∀x∈Z6 l,Z6 x=[x]/\x.length<=32:=by
 intro x a;obtain ⟨Z,d,c⟩:=Zs4 (runesL l);unfold Z6 at a;rw [d] at a;obtain ⟨zs,b,rfl⟩:=XY.1 a;exact ⟨(c zs b).self,(c zs b).2.2.2⟩
def Zbb (c:UInt8):Bool:=decide ((97<=c.toNat/\c.toNat<=122)\/(48<=c.toNat/\c.toNat<=57)\/c.toNat=95)
def Zbr (l:Xu):Bool:=decide (1<=l.length/\l.length<=32)&&l.all Zbb
def ZaS (r:Int):Bool:=decide ((97<=r/\r<=122)\/(48<=r/\r<=57)\/r=95)
end TK
namespace EM
open VM
open TK (Zbr)
variable {k:Nat} {l r:Xu}
abbrev Fld:=Xu×Xu
abbrev Ev:=Int×List Fld
def Zeb:List Fld->Int
 | []=>0
 | f::r=>if Zbr f.1=false then 100 else if 4096<f.2.length then 2 else Zeb r
def ZG (e:Ev):Int:=if 16<e.2.length then 3 else Zeb e.2
theorem Zkw {fs:List Fld} (a:k<fs.length):Zeb (fs.drop k)=if Zbr fs[k].1=false then 100 else if 4096<fs[k].2.length then 2 else Zeb (fs.drop (k+1)):=by
 rw [X9 a,Zeb]
theorem ZjM:∀{fs:List Fld},Zeb fs=0↔∀f∈fs,Zbr f.1=true/\f.2.length<=4096
 | []=>by simp [Zeb]
 | f::r=>by
   rw [Zeb];have ih:=@ZjM r;constructor
   ·intro h
    split at h
    ·omega
    ·split at h
     ·omega
     ·rename_i b c;intro g a;rcases XS.1 a with rfl|a
      ·exact ⟨by simpa using b,by omega⟩
      ·exact ih.1 h g a
   ·intro h;obtain ⟨b,c⟩:=h f (by simp);rw [Xa (by simp [b]),Xa (by omega)];exact ih.2 fun g a=>h g (by simp [a])
theorem ZaL {e:Ev}:ZG e=0↔e.2.length<=16/\∀f∈e.2,Zbr f.1=true/\f.2.length<=4096:=by
 unfold ZG;constructor
 ·intro h
  split at h
  ·omega
  ·exact ⟨by omega,ZjM.1 h⟩
 ·intro h;rw [Xa (by omega)];exact ZjM.2 h.2
theorem Zdd {n:Xu} (h:Zbr n=true):n.length<=32:=by
 unfold TK.Zbr at h;simp at h;omega
def Zao (fs:List Fld):Nat:=(fs.map fun f=>f.1.length+f.2.length).sum
theorem ZsR {fs:List Fld} (a:k<fs.length):Zao (fs.take (k+1))=Zao (fs.take k)+fs[k].1.length+fs[k].2.length:=by
 unfold Zao;rw [XG a,XN,List.sum_append];simp;omega
theorem Zd6:∀{fs:List Fld},(∀f∈fs,Zbr f.1=true/\f.2.length<=4096)->Zao fs<=4128*fs.length
 | [],_=>by simp [Zao]
 | f::r,h=>by
   have b:=h f (by simp);have h2:=Zdd b.1;have ih:=Zd6 (fs:=r) fun g a=>h g (by simp [a]);have e:Zao (f::r)=f.1.length+f.2.length+Zao r:=by simp [Zao]
   rw [e,Xh];omega
def ZK (fs:List Fld):Xu:=fs.flatMap fun f=>Z1 f.1++Z1 f.2
theorem ZdU (f:Fld) (r:List Fld):ZK (f::r)=Z1 f.1++(Z1 f.2++ZK r):=by simp [ZK]
theorem Zku {fs:List Fld} (a:k<fs.length):ZK (fs.take (k+1))=ZK (fs.take k)++(Z1 fs[k].1++Z1 fs[k].2):=by
 unfold ZK;rw [XG a,XaR];simp
def ZZ (e:Ev):Xu:=ZaY e.1++Zb e.2.length++ZK e.2
theorem ZdL (s:Xu):(Z1 s).length<=10+s.length/\1<=(Z1 s).length:=by
 unfold Z1;rw [Xd];have:=Zc s.length;omega
theorem Zih:∀fs:List Fld,(ZK fs).length<=20*fs.length+Zao fs
 | []=>by simp [ZK]
 | f::r=>by
   rw [ZdU,Xd,Xd,Xh];have h1:=(ZdL f.1).1;have h2:=(ZdL f.2).1;have h3:=Zih r;have e:Zao (f::r)=f.1.length+f.2.length+Zao r:=by simp [Zao]
   omega
theorem Zcf (e:Ev):(ZZ e).length<=20+20*e.2.length+Zao e.2/\1<=(ZZ e).length:=by
 unfold ZZ;rw [Xd,Xd];have h1:=Zc (zig e.1);have h2:=Zc e.2.length;have h3:=Zih e.2;unfold ZaY;omega
def ZbD:Nat->List Fld->Xu->Option (List Fld×Xu)
 | 0,acc,l=>some (acc,l)
 | k+1,acc,l =>
   if (ZW l 32).2.2≠0\/(ZW (l.drop (ZW l 32).2.1) 4096).2.2≠0 then none
   else ZbD k (acc++[((ZW l 32).1,(ZW (l.drop (ZW l 32).2.1) 4096).1)]) ((l.drop (ZW l 32).2.1).drop (ZW (l.drop (ZW l 32).2.1) 4096).2.1)
def rdE (l:Xu):Option (Ev×Xu) :=
 if (Zan l).2.2≠0 then none
 else if (Zk (l.drop (Zan l).2.1)).2.2≠0\/16<(Zk (l.drop (Zan l).2.1)).1 then none
 else match ZbD (Zk (l.drop (Zan l).2.1)).1 [] ((l.drop (Zan l).2.1).drop (Zk (l.drop (Zan l).2.1)).2.1) with
  | none=>none
  | some (fs,r)=>some (((Zan l).1,fs),r)
def ZcV (l:Xu):Option (Ev×Xu) :=
 match rdE l with
 | none=>none
 | some (e,r)=>if ZG e=0 then some (e,r) else none
theorem Zex {s:Xu} {m:Int} (h:ZW l m=(s,k,0)):Z1 s++l.drop k=l/\(s.length:Int)<=max 0 m/\k<=l.length:=by
 unfold ZW at h
 split at h
 ·rename_i a;have:=Xp (fun x=>x.2.2) h;simp at this;exact absurd this a
 ·split at h
  ·simp at h
  ·split at h
   ·simp at h
   ·rename_i a h2 h3;simp only [X8,and_true] at h;obtain ⟨hs,g⟩:=h;have d:(Zk l).2.2=0:=by simpa using a
    have f:=Zc3 (l:=l) (n:=(Zk l).1) (k:=(Zk l).2.1) (by rw [<- d]);have c:=(ZaN l).2.1;have b:s.length=(Zk l).1:=by rw [<- hs,Xi,Xj];omega
    refine ⟨?_,by rw [b];omega,by omega⟩;unfold Z1;rw [b,<- g,Xl]
    have e:s++l.drop ((Zk l).2.1+(Zk l).1)=l.drop (Zk l).2.1:=by
     rw [<- hs,<- XaM,X6]
    rw [e];exact f
theorem Zn7:∀(fs acc:List Fld) (r:Xu),(∀f∈fs,f.1.length<=32/\f.2.length<=4096)->ZbD fs.length acc (ZK fs++r)=some (acc++fs,r)
 | [],acc,r,_=>by simp [ZbD,ZK]
 | f::fs,acc,r,h=>by
   obtain ⟨h1,h2⟩:=h f (by simp);rw [Xh,ZbD,ZdU,Xl,Xl,Zi4 f.1 (by omega) 32 (by omega)];dsimp only;rw [Xau,Zi4 f.2 (by omega) 4096 (by omega)];dsimp only;rw [Xau,Xa (by simp)];rw [Zn7 fs (acc++[(f.1,f.2)]) r fun g a=>h g (by simp [a])];simp
theorem Zmg:∀(k:Nat) (acc:List Fld) (l:Xu) (fs:List Fld) (r:Xu),ZbD k acc l=some (fs,r) ->
  ∃b,fs=acc++b/\b.length=k/\ZK b++r=l/\∀f∈b,f.1.length<=32/\f.2.length<=4096
 | 0,acc,l,fs,r,h=>by
   simp only [ZbD,Xv,X8] at h;exact ⟨[],by simp [h.1],rfl,by simp [ZK,h.2],by simp⟩
 | k+1,acc,l,fs,r,h=>by
   rw [ZbD] at h
   split at h
   ·cases h
   ·rename_i a;obtain ⟨s,c,d,hs⟩:∃s c d,ZW l 32=(s,c,d):=⟨_,_,_,rfl⟩;rw [hs] at h a;dsimp only at h a;obtain ⟨t,j,e,i⟩:∃t j e,ZW (l.drop c) 4096=(t,j,e):=⟨_,_,_,rfl⟩;rw [i] at h a;dsimp only at h a;obtain ⟨rfl,rfl⟩:d=0/\e=0:=by constructor<;>(apply Xar;intro m;exact a (by simp [m]))
    obtain ⟨n,b2,_⟩:=Zex hs;obtain ⟨c1,c2,_⟩:=Zex i;obtain ⟨b,p,o,u,q⟩:=Zmg k _ _ _ _ h;refine ⟨(s,t)::b,by rw [p];simp,by simp [o],?_,?_⟩
    ·rw [ZdU,Xl,Xl,u];dsimp only;rw [c1,n]
    ·intro f g;rcases XS.1 g with rfl|g
     ·exact ⟨by show s.length<=32;omega,by show t.length<=4096;omega⟩
     ·exact q f g
def Zid (e:Ev):Prop := -9223372036854775808<=e.1/\e.1<=9223372036854775807
theorem ZBk {e:Ev} (a:Zid e) (hn:e.2.length<=16) (h:∀f∈e.2,f.1.length<=32/\f.2.length<=4096) (r:Xu):rdE (ZZ e++r)=some (e,r):=by
 unfold rdE ZZ;rw [Xl,Xl,ZxE e.1 a.1 a.2];dsimp only;rw [Xau,ZdW _ (by omega)];dsimp only;rw [Xau,Xa (by simp),Xa (by simp;omega),Zn7 e.2 [] r h];simp
theorem Zlh {e:Ev} (h:ZG e=0):e.2.length<=16/\∀f∈e.2,f.1.length<=32/\f.2.length<=4096:=by
 obtain ⟨c,a⟩:=ZaL.1 h;exact ⟨c,fun f b=>⟨Zdd (a f b).1,(a f b).2⟩⟩
theorem Zg4 {e:Ev} (b:Zid e) (h:ZG e=0) (r:Xu):ZcV (ZZ e++r)=some (e,r):=by
 obtain ⟨c,a⟩:=Zlh h;unfold ZcV;rw [ZBk b c a];simp [h]
theorem Zq1 {e:Ev} (h:rdE l=some (e,r)):ZZ e++r=l/\Zid e/\e.2.length<=16:=by
 unfold rdE at h
 split at h
 ·cases h
 ·split at h
  ·cases h
  ·rename_i B f;have a:(Zan l).2.2=0:=by simpa using B
   obtain ⟨n,c,w,b⟩:∃n c w,Zan l=(n,c,w):=⟨_,_,_,rfl⟩;rw [b] at h f a;dsimp only at h f a;subst a;obtain ⟨m,g,q,t⟩:∃m g q,Zk (l.drop c)=(m,g,q):=⟨_,_,_,rfl⟩;rw [t] at h f;dsimp only at h f;have s:q=0/\m<=16:=by constructor<;>(apply Xar;intro x;exact f (by first|exact .inl x|exact .inr (by omega)))
   obtain ⟨rfl,hm⟩:=s;cases hg:ZbD m [] ((l.drop c).drop g) with
   | none=>rw [hg] at h;cases h
   | some p =>
     obtain ⟨fs,r2⟩:=p;rw [hg] at h;simp only [Xv,X8] at h;obtain ⟨rfl,rfl⟩:=h;obtain ⟨gs,v,y,A,g4⟩:=Zmg _ _ _ _ _ hg;rw [Xz] at v;subst v
     have j:ZaY n++l.drop c=l:=by
      unfold Zan at b;simp only [X8] at b;have z:=Zc3 (l:=l) (n:=(Zk l).1) (k:=c) (by rw [<- b.2.1,<- b.2.2])
      have i:zig n=(Zk l).1:=by
       rw [<- b.1];generalize (Zk l).1=u;unfold zig zag
       split<;>split<;>omega
      unfold ZaY;rw [i];exact z
     have o:=Zc3 t;refine ⟨?_,?_,by show fs.length<=16;omega⟩
     ·unfold ZZ;dsimp only;rw [Xl,Xl,A,y,o,j]
     ·have d:=(Zql l).1;rw [b] at d;exact d
theorem Zc2 {e:Ev} (h:ZcV l=some (e,r)):ZZ e++r=l/\Zid e/\ZG e=0:=by
 unfold ZcV at h;cases hr:rdE l with
 | none=>rw [hr] at h;cases h
 | some p =>
   obtain ⟨e',r'⟩:=p;rw [hr] at h;dsimp only at h
   split at h
   ·simp only [Xv,X8] at h;obtain ⟨rfl,rfl⟩:=h;exact ⟨(Zq1 hr).1,(Zq1 hr).2.1,by assumption⟩
   ·cases h
open TK (Z6)
variable {x y:Xu} {i k:Nat}
def Zj:Xu->Xu->Bool
 | [],[]=>false
 | [],_::_=>true
 | _::_,[]=>false
 | a::x,b::y=>if a=b then Zj x y else decide (a.toNat<b.toNat)
theorem Za9:∀x,Zj x x=false
 | []=>rfl
 | a::x=>by rw [Zj,Xe rfl,Za9 x]
theorem ZaD:∀{x y z},Zj x y=true->Zj y z=true->Zj x z=true
 | [],[],_,h,_=>by simp [Zj] at h
 | [],_::_,[],_,h=>by simp [Zj] at h
 | [],_::_,_::_,_,_=>rfl
 | _::_,[],_,h,_=>by simp [Zj] at h
 | _::_,_::_,[],_,h=>by simp [Zj] at h
 | a::x,b::y,c::z,h1,h2=>by
   rw [Zj] at h1 h2 ⊢
   by_cases e:a=b
   ·subst e;rw [Xe rfl] at h1
    by_cases d:a=c
    ·subst d;rw [Xe rfl] at h2 ⊢;exact ZaD h1 h2
    ·rw [Xa d] at h2 ⊢;exact h2
   ·rw [Xa e] at h1;have g:=of_decide_eq_true h1
    by_cases d:b=c
    ·subst d;rw [Xa e];exact h1
    ·rw [Xa d] at h2;have f:=of_decide_eq_true h2;have j:a≠c:=by rintro rfl;omega
     rw [Xa j];exact Xw (by omega)
theorem ZaC:∀{x y},Zj x y=false->x≠y->Zj y x=true
 | [],[],_,h=>absurd rfl h
 | [],_::_,h,_=>by simp [Zj] at h
 | _::_,[],_,_=>rfl
 | a::x,b::y,h,hn=>by
   rw [Zj] at h ⊢
   by_cases e:a=b
   ·subst e;rw [Xe rfl] at h ⊢;exact ZaC h (fun c=>hn (by rw [c]))
   ·rw [Xa e] at h;rw [Xa (fun c=>e c.symm)];have h':=of_decide_eq_false h;have:a.toNat≠b.toNat:=fun c=>e (XaT.1 c);exact Xw (by omega)
theorem ZbF (h:Zj x y=true):x≠y:=by rintro rfl;rw [Za9] at h;cases h
theorem Zmx (h:Zj x y=true):Zj y x=false:=by
 cases hh:Zj y x with
 | false=>rfl
 | true=>have:=ZaD h hh;rw [Za9] at this;cases this
theorem Zaq:∀x y,Op.bytesLess x y=Zj x y
 | [],[]=>by simp [Op.bytesLess,Zj]
 | [],_::_=>by simp [Op.bytesLess,Zj]
 | _::_,[]=>by simp [Op.bytesLess,Zj]
 | a::x,b::y=>by
   rw [Op.bytesLess,Zj,Zaq x y]
   by_cases e:a=b
   ·subst e;simp
   ·have:a.toNat≠b.toNat:=fun c=>e (XaT.1 c);simp [e,UInt8.lt_iff_toNat_lt]
theorem Zsk (a:i<x.length) (b:i<y.length):Zj (x.drop i) (y.drop i)=if x[i]=y[i] then Zj (x.drop (i+1)) (y.drop (i+1)) else decide (x[i].toNat<y[i].toNat):=by
 rw [X9 a,X9 b,Zj]
theorem Zu0 (h:x.length<=i\/y.length<=i) (hi:i<=x.length) (hj:i<=y.length):Zj (x.drop i) (y.drop i)=decide (x.length<y.length):=by
 rcases h with h|h
 ·rw [XaH h];cases hd:y.drop i with
  | nil =>
    have:=Xp List.length hd;rw [Xj] at this;simp at this;rw [Zj];exact (XB (by omega)).symm
  | cons c r =>
    have:=Xp List.length hd;rw [Xj] at this;simp at this;rw [Zj];exact (Xw (by omega)).symm
 ·rw [XaH (l:=y) h];cases hd:x.drop i with
  | nil =>
    have:=Xp List.length hd;rw [Xj] at this;simp at this;rw [Zj];exact (XB (by omega)).symm
  | cons c r =>
    rw [Zj];exact (XB (by omega)).symm
abbrev Tr (α:Type):=Xu×List α
abbrev Trm:=Tr Int
variable {α : Type}
def Zaj:List (Tr α)->Xu->α->List (Tr α)
 | [],s,p=>[(s,[p])]
 | t::r,s,p=>if Zj t.1 s=true then t::Zaj r s p else if t.1=s then (s,t.2++[p])::r else (s,[p])::t::r
theorem ZiR:∀{l:List (Tr α)} {s:Xu} {k:Nat} (p:α) (a:k<l.length),(∀j (c:j<l.length),j<k->Zj l[j].1 s=true)->l[k].1=s ->
  Zaj l s p=l.take k++(s,l[k].2++[p])::l.drop (k+1)
 | [],s,k,p,a,_,_=>by simp at a
 | t::r,s,0,p,_,_,h=>by
   simp only [Xbc] at h;rw [Zaj,Xa (by rw [h,Za9];exact Xbm),Xe h];simp
 | t::r,s,k+1,p,a,h1,h2=>by
   have b:=h1 0 (by simp) (by omega);simp only [Xbc] at b;rw [Zaj,Xe b,ZiR (l:=r) (s:=s) (k:=k) p (by simpa using a) (fun j c d=>h1 (j+1) (XaI c) (by omega)) (by simpa using h2)];simp
theorem Zer:∀{l:List (Tr α)} {s:Xu} {k:Nat} (p:α),k<=l.length->(∀j (c:j<l.length),j<k->Zj l[j].1 s=true)->(∀a:k<l.length,Zj l[k].1 s=false/\l[k].1≠s) ->
  Zaj l s p=l.take k++(s,[p])::l.drop k
 | [],s,k,p,a,_,_=>by
   have:k=0:=by simpa using a
   subst this;simp [Zaj]
 | t::r,s,0,p,_,_,h=>by
   have b:=h (by simp);simp only [Xbc] at b;rw [Zaj,Xa (by rw [b.1];exact Xbm),Xa b.2];simp
 | t::r,s,k+1,p,a,h1,h2=>by
   have d:=h1 0 (by simp) (by omega);simp only [Xbc] at d;rw [Zaj,Xe d,Zer (l:=r) (s:=s) (k:=k) p (by simpa using a) (fun j c e=>h1 (j+1) (XaI c) (by omega)) (fun a=>h2 (XaI a))];simp
def ZC (l:List (Tr α)) (qs:List (Xu×α)):List (Tr α):=qs.foldl (fun l q=>Zaj l q.1 q.2) l
theorem ZaW (l:List (Tr α)) (a b:List (Xu×α)):ZC l (a++b)=ZC (ZC l a) b:=by simp [ZC]
theorem ZuJ (l:List (Tr α)) (s:Xu) (p:α):ZC l [(s,p)]=Zaj l s p:=rfl
def Zae (n:Xu) (a:List Xu) (base:Int):List (Xu×Int):=a.zipIdx.map fun p=>(n++58::p.1,base+(p.2:Int))
theorem ZkL (n:Xu) {a:List Xu} (b:k<a.length) (base:Int):Zae n (a.take (k+1)) base=Zae n (a.take k) base++[(n++58::a[k],base+(k:Int))]:=by
 unfold Zae;rw [XG b,List.zipIdx_append,XN];simp [Xao (Xam b)]
def ZL:Int->List Fld->List (Xu×Int)
 | _,[]=>[]
 | base,f::r=>Zae f.1 (Z6 f.2) base++ZL (base+((Z6 f.2).length:Int)+64) r
def ZaR (fs:List Fld):Int:=(fs.map fun f=>((Z6 f.2).length:Int)+64).sum
theorem Zf3 {fs:List Fld} (a:k<fs.length):ZaR (fs.take (k+1))=ZaR (fs.take k)+((Z6 fs[k].2).length:Int)+64:=by
 unfold ZaR;rw [XG a,XN,List.sum_append];simp;omega
theorem Zh5:∀(a b:List Fld) (base:Int),ZL base (a++b)=ZL base a++ZL (base+ZaR a) b
 | [],b,base=>by simp [ZL,ZaR]
 | f::a,b,base=>by
   rw [XJ,ZL,ZL,Zh5 a b,Xl];congr 3
   simp [ZaR];omega
theorem ZkJ {fs:List Fld} (a:k<fs.length):ZL 0 (fs.take (k+1))=ZL 0 (fs.take k)++Zae fs[k].1 (Z6 fs[k].2) (ZaR (fs.take k)):=by
 rw [XG a,Zh5,ZL,ZL,XI,Int.zero_add]
def Zcs (fs:List Fld):List Trm:=ZC [] (ZL 0 fs)
def Z5 (e:Ev):List Trm:=if ZG e≠0 then [] else Zcs e.2
def Zac (l:List (Tr α)):Prop:=l.Pairwise fun a b=>Zj a.1 b.1=true
theorem ZiT:∀{l:List (Tr α)} {s:Xu} {p:α} {t:Tr α},t∈Zaj l s p->t.1=s\/∃u∈l,u.1=t.1
 | [],s,p,t,h=>by simp [Zaj] at h;exact .inl (by rw [h])
 | u::r,s,p,t,h=>by
   rw [Zaj] at h
   split at h
   ·rcases XS.1 h with rfl|h
    ·exact .inr ⟨t,by simp,rfl⟩
    ·rcases ZiT h with h|⟨v,b,a⟩
     ·exact .inl h
     ·exact .inr ⟨v,by simp [b],a⟩
   ·split at h
    ·rcases XS.1 h with rfl|h
     ·exact .inl rfl
     ·exact .inr ⟨t,by simp [h],rfl⟩
    ·rcases XS.1 h with rfl|h
     ·exact .inl rfl
     ·exact .inr ⟨t,by simpa using h,rfl⟩
theorem ZdT:∀{l:List (Tr α)} (s:Xu) (p:α),Zac l->Zac (Zaj l s p)
 | [],s,p,_=>by simp [Zaj,Zac]
 | t::r,s,p,h=>by
   unfold Zac at h ⊢;rw [Zaj];rw [Xax] at h
   split
   ·rename_i e;rw [Xax];refine ⟨fun u a => ?_,ZdT s p h.2⟩;rcases ZiT a with a|⟨v,f,d⟩
    ·rw [a];exact e
    ·rw [<- d];exact h.1 v f
   ·split
    ·rename_i c b;rw [Xax];exact ⟨fun u a=>by rw [<- b];exact h.1 u a,h.2⟩
    ·rename_i c b;have hs:Zj s t.1=true:=ZaC (by simpa using c) b;rw [Xax,Xax];refine ⟨fun u a => ?_,h.1,h.2⟩;rcases XS.1 a with rfl|a
     ·exact hs
     ·exact ZaD hs (h.1 u a)
theorem Zen:∀(qs:List (Xu×α)) {l:List (Tr α)},Zac l->Zac (ZC l qs)
 | [],_,h=>h
 | q::qs,l,h=>Zen qs (ZdT q.1 q.2 h)
def Zs:List (Tr α)->Xu->List α
 | [],_=>[]
 | t::r,s=>if t.1=s then t.2 else Zs r s
theorem ZbX:∀{l:List (Tr α)} {s:Xu},(∀t∈l,t.1≠s)->Zs l s=[]
 | [],_,_=>rfl
 | t::r,s,h=>by
   rw [Zs,Xa (h t (by simp))];exact ZbX fun u a=>h u (by simp [a])
theorem Zez:∀{l:List (Tr α)} (s:Xu) (p:α) (x:Xu),Zac l->Zs (Zaj l s p) x=if x=s then Zs l s++[p] else Zs l x
 | [],s,p,x,_=>by
   simp only [Zaj,Zs]
   by_cases h:s=x
   ·subst h;simp
   ·rw [Xa h,Xa (fun e=>h e.symm)]
 | t::r,s,p,x,h=>by
   unfold Zac at h;rw [Xax] at h;rw [Zaj]
   split
   ·rename_i j;have c:=ZbF j;rw [Zs,Zez s p x h.2]
    by_cases a:x=s
    ·subst a;rw [Xa c,Xe rfl,Xe rfl,Zs,Xa c]
    ·rw [Xa a,Xa a,Zs]
   ·split
    ·rename_i f b
     by_cases a:x=s
     ·subst a;simp only [Zs,b,if_true]
     ·simp only [Zs];rw [Xa (fun e=>a e.symm),Xa a,Xa (fun e=>a (by rw [<- b,e]))]
    ·rename_i f b
     by_cases a:x=s
     ·subst a;have hs:Zj x t.1=true:=ZaC (by simpa using f) b
      have g:Zs (t::r) x=[]:=ZbX fun u d e=>by
       rcases XS.1 d with rfl|d
       ·exact b e
       ·have:=ZaD hs (h.1 u d);rw [e] at this;exact ZbF this rfl
      rw [Zs,Xe rfl,Xe rfl,g];rfl
     ·rw [Zs,Xa (fun e=>a e.symm),Xa a]
theorem ZeX:∀(qs:List (Xu×α)) {l:List (Tr α)} (x:Xu),Zac l->Zs (ZC l qs) x=Zs l x++(qs.filter (fun q=>q.1=x)).map (·.2)
 | [],l,x,_=>by simp [ZC]
 | q::qs,l,x,h=>by
   have e:ZC l (q::qs)=ZC (Zaj l q.1 q.2) qs:=rfl;rw [e,ZeX qs x (ZdT _ _ h),Zez _ _ _ h]
   by_cases a:x=q.1
   ·subst a;simp
   ·rw [Xa a,List.filter_cons_of_neg (by simpa using fun e=>a e.symm)]
theorem Zm7 (fs:List Fld) (x:Xu):Zs (Zcs fs) x=((ZL 0 fs).filter (fun q=>q.1=x)).map (·.2):=by
 unfold Zcs;rw [ZeX _ _ (by simp [Zac])];rfl
theorem Zh9 (fs:List Fld):Zac (Zcs fs):=Zen _ (by simp [Zac])
theorem Zla:∀{l:List (Tr α)} (s:Xu) (p:α),(∀t∈l,t.2≠[])->∀t∈Zaj l s p,t.2≠[]
 | [],s,p,_=>by simp [Zaj]
 | u::r,s,p,h=>by
   intro t a;rw [Zaj] at a
   split at a
   ·rcases XS.1 a with rfl|a
    ·exact h t (by simp)
    ·exact Zla s p (fun v b=>h v (by simp [b])) t a
   ·split at a
    ·rcases XS.1 a with rfl|a
     ·simp
     ·exact h t (by simp [a])
    ·rcases XS.1 a with rfl|a
     ·simp
     ·exact h t (by simpa using a)
theorem Zi0:∀(qs:List (Xu×α)) {l:List (Tr α)},(∀t∈l,t.2≠[])->∀t∈ZC l qs,t.2≠[]
 | [],_,h=>h
 | q::qs,l,h=>Zi0 qs (Zla q.1 q.2 h)
theorem ZoJ (fs:List Fld):∀t∈Zcs fs,t.2≠[]:=Zi0 _ (by simp)
theorem ZfA:∀{a b:List (Tr α)},Zac a->Zac b->(∀t∈a,t.2≠[])->(∀t∈b,t.2≠[])->(∀x,Zs a x=Zs b x)->a=b
 | [],[],_,_,_,_,_=>rfl
 | [],t::r,_,_,_,h2,h=>by
   have:=h t.1;rw [Zs,Zs,Xe rfl] at this;exact absurd this.symm (h2 t (by simp))
 | t::r,[],_,_,h1,_,h=>by
   have:=h t.1;rw [Zs,Zs,Xe rfl] at this;exact absurd this (h1 t (by simp))
 | t::r,u::q,ha,hb,h1,h2,h=>by
   unfold Zac at ha hb;rw [Xax] at ha hb
   have j:∀x,Zj x t.1=true->Zs (t::r) x=[]:=fun x f=>ZbX fun v c e=>by
    rcases XS.1 c with rfl|c
    ·rw [e] at f;exact ZbF f rfl
    ·have:=ZaD f (ha.1 v c);rw [e] at this;exact ZbF this rfl
   have g:∀x,Zj x u.1=true->Zs (u::q) x=[]:=fun x f=>ZbX fun v c e=>by
    rcases XS.1 c with rfl|c
    ·rw [e] at f;exact ZbF f rfl
    ·have:=ZaD f (hb.1 v c);rw [e] at this;exact ZbF this rfl
   have l:t.1=u.1:=by
    apply Xar;intro n;cases hl:Zj t.1 u.1 with
    | true =>
      have d:=h t.1;rw [g t.1 hl,Zs,Xe rfl] at d;exact h1 t (by simp) d
    | false =>
      have d:=h u.1;rw [j u.1 (ZaC hl n)] at d;rw [Zs,Xe rfl] at d;exact h2 u (by simp) d.symm
   have o:t.2=u.2:=by
    have d:=h t.1;rw [Zs,Xe rfl,Zs,Xe l.symm] at d;exact d
   have p:t=u:=XaL l o;subst p
   have m:r=q:=ZfA ha.2 hb.2 (fun v c=>h1 v (by simp [c])) (fun v c=>h2 v (by simp [c])) (fun x=>by
    have d:=h x;rw [Zs,Zs] at d
    by_cases f:t.1=x
    ·subst f;rw [ZbX fun v c e=>by have:=ha.1 v c;rw [e] at this;exact ZbF this rfl,ZbX fun v c e=>by have:=hb.1 v c;rw [e] at this;exact ZbF this rfl]
    ·rw [Xa f,Xa f] at d;exact d)
   rw [m]
def Zag (l:List (Tr α)):List α:=l.flatMap (·.2)
theorem Znx:∀(l:List (Tr α)) (s:Xu) (p:α),(Zag (Zaj l s p)).Perm (Zag l++[p])
 | [],s,p=>by simp [Zaj,Zag]
 | t::r,s,p=>by
   rw [Zaj]
   split
   ·show (t.2++Zag (Zaj r s p)).Perm ((t.2++Zag r)++[p])
    rw [Xl];exact List.Perm.append_left _ (Znx r s p)
   ·split
    ·show ((t.2++[p])++Zag r).Perm ((t.2++Zag r)++[p])
     rw [Xl,Xl];exact List.Perm.append_left _ List.perm_append_comm
    ·show ([p]++(t.2++Zag r)).Perm ((t.2++Zag r)++[p])
     exact List.perm_append_comm
theorem Zge:∀(qs:List (Xu×α)) (l:List (Tr α)),(Zag (ZC l qs)).Perm (Zag l++qs.map (·.2))
 | [],l=>by simp [ZC]
 | q::qs,l=>by
   have e:ZC l (q::qs)=ZC (Zaj l q.1 q.2) qs:=rfl;rw [e];refine (Zge qs _).trans ?_;refine (List.Perm.append_right _ (Znx l q.1 q.2)).trans ?_;rw [Xl];exact List.Perm.refl _
def ZCN (fs:List Fld):List Int:=(ZL 0 fs).map (·.2)
theorem Zrj (fs:List Fld):(Zag (Zcs fs)).Perm (ZCN fs):=by
 exact Zge (ZL 0 fs) []
theorem Zgt (n:Xu) (a:List Xu) (base:Int):(Zae n a base).map (·.2)=(List.range a.length).map (fun k:Nat=>base+(k:Int)):=by
 apply List.ext_getElem
 ·simp [Zae]
 ·intro i h1 h2;simp [Zae]
theorem ZdO:∀(fs:List Fld) (base:Int),∀v∈(ZL base fs).map (·.2),base<=v
 | [],base,v,h=>by simp [ZL] at h
 | f::r,base,v,h=>by
   rw [ZL,XN,Xak,Zgt] at h;rcases h with h|h
   ·obtain ⟨k,_,rfl⟩:=XY.1 h;omega
   ·have:=ZdO r _ v h;omega
theorem Zhj:∀(fs:List Fld) (base:Int),((ZL base fs).map (·.2)).Pairwise (·<·)
 | [],base=>by simp [ZL]
 | f::r,base=>by
   rw [ZL,XN,List.pairwise_append,Zgt];refine ⟨?_,Zhj r _,?_⟩
   ·rw [List.pairwise_map];exact List.pairwise_lt_range.imp fun h=>by omega
   ·intro a d b e;obtain ⟨k,c,rfl⟩:=XY.1 d;have:=ZdO r _ b e;have:=List.mem_range.1 c;omega
def ZfD (fs:List Fld):Nat:=(fs.map fun f=>(Z6 f.2).length).sum
theorem ZmF:∀(fs:List Fld) (base:Int),(ZL base fs).length=ZfD fs
 | [],base=>rfl
 | f::r,base=>by
   rw [ZL,Xd,ZmF r];simp [Zae,ZfD]
theorem ZmL (fs:List Fld):(Zag (Zcs fs)).length=ZfD fs:=by
 rw [(Zrj fs).length_eq];unfold ZCN;rw [XE,ZmF]
end EM
namespace DM
open VM
open EM (Zj Za9 ZaD ZaC ZbF Zex)
variable {j i:Nat} {ahead b:Xu}
abbrev ZQ:=Xu×(Int×(Int×Int))
def ZcB (z:Int):Bool:=decide (0<=z)&&decide (z<=67108864)
def okX (x:ZQ):Bool:=decide (1<=x.1.length)&&decide (x.1.length<=65)&&ZcB x.2.1&&ZcB x.2.2.1&&ZcB x.2.2.2
theorem ZqS {z:Int}:ZcB z=true↔0<=z/\z<=67108864:=by simp [ZcB]
theorem Zfe {x:ZQ}:okX x=true↔(1<=x.1.length/\x.1.length<=65)/\(0<=x.2.1/\x.2.1<=67108864)/\(0<=x.2.2.1/\x.2.2.1<=67108864)/\(0<=x.2.2.2/\x.2.2.2<=67108864):=by
 unfold okX;simp only [Xy,Xg,ZqS];constructor
 ·rintro ⟨⟨⟨⟨a,f⟩,e⟩,d⟩,c⟩;exact ⟨⟨a,f⟩,e,d,c⟩
 ·rintro ⟨⟨a,f⟩,e,d,c⟩;exact ⟨⟨⟨⟨a,f⟩,e⟩,d⟩,c⟩
def ZmU (p:Option Xu) (t:Xu):Bool:=match p with
 | none=>true
 | some q=>Zj q t
def Zf2:Option Xu->List ZQ->Bool
 | _,[]=>true
 | p,x::r=>okX x&&ZmU p x.1&&Zf2 (some x.1) r
theorem Zds (p:Option Xu) (x:ZQ) (r:List ZQ):Zf2 p (x::r)=(okX x&&ZmU p x.1&&Zf2 (some x.1) r):=by cases p<;>rfl
def Zb7 (l:List ZQ):Bool:=decide (l.length<=262144)&&Zf2 none l
def ZJ:Xu->Xu->Nat
 | a::x,b::y=>if a=b then ZJ x y+1 else 0
 | _,_=>0
theorem ZdJ:∀x y,ZJ x y<=x.length/\ZJ x y<=y.length
 | [],_=>by simp [ZJ]
 | _::_,[]=>by simp [ZJ]
 | a::x,b::y=>by
   rw [ZJ];have:=ZdJ x y
   split<;>simp<;>omega
theorem ZgB:∀x y:Xu,x.take (ZJ x y)=y.take (ZJ x y)
 | [],_=>by simp [ZJ]
 | _::_,[]=>by simp [ZJ]
 | a::x,b::y=>by
   rw [ZJ]
   split
   ·rename_i h;subst h;simp [ZgB x y]
   ·rfl
theorem ZiH:∀{x y:Xu} {k:Nat},k<=x.length->k<=y.length->(∀i,i<k->x[i]? = y[i]?)->(k<x.length->k<y.length->x[k]? ≠ y[k]?)->ZJ x y=k
 | [],_,k,h,_,_,_=>by have:k=0:=(by simpa using h);subst this;simp [ZJ]
 | _::_,[],k,_,h,_,_=>by have:k=0:=(by simpa using h);subst this;simp [ZJ]
 | a::x,b::y,0,_,_,_,h=>by
   have:=h (by simp) (by simp);rw [ZJ,Xa (fun e=>this (by simp [e]))]
 | a::x,b::y,k+1,h1,h2,h3,h4=>by
   have f:=h3 0 (by omega);have e:a=b:=by simpa using f
   rw [ZJ,Xe e,ZiH (k:=k) (by simpa using h1) (by simpa using h2) (fun i hi=>by simpa using h3 (i+1) (by omega)) (fun c d=>by simpa using h4 (by simpa using c) (by simpa using d))]
def Zec (ahead:Xu) (x:ZQ):Xu:=Zb (ZJ ahead x.1)++(Z1 (x.1.drop (ZJ ahead x.1))++(Zb x.2.1.toNat++(Zb x.2.2.1.toNat++Zb x.2.2.2.toNat)))
def ZE:Xu->List ZQ->Xu
 | _,[]=>[]
 | ahead,x::r=>Zec ahead x++ZE x.1 r
theorem Zkq:∀(ahead:Xu) (l:List ZQ) (x:ZQ),ZE ahead (l++[x])=ZE ahead l++Zec ((l.getLast?.map (·.1)).getD ahead) x
 | ahead,[],x=>by simp [ZE]
 | ahead,y::l,x=>by
   rw [XJ,ZE,ZE,Zkq y.1 l x,Xl];cases l<;>simp [List.getLast?_cons]
def ZB (l:List ZQ) (j:Nat):List ZQ:=(l.drop (16*j)).take 16
def Zfv (l:List ZQ) (j:Nat):Xu:=Zb (ZE [] (ZB l j)).length++ZE [] (ZB l j)
def Zu (l:List ZQ):Nat:=(l.length+15) / 16
def ZbS (l:List ZQ) (j:Nat):Xu:=((List.range (Zu l)).drop j).flatMap (Zfv l)
theorem ZiV {l:List ZQ} (h:j<Zu l):ZbS l j=Zfv l j++ZbS l (j+1):=by
 unfold ZbS;rw [X9 (by simpa using h),XaQ];simp
theorem ZpU {l:List ZQ} (h:Zu l<=j):ZbS l j=[]:=by
 unfold ZbS;rw [XaH (by simpa using h)];rfl
def ZbJ (l:List ZQ):Xu:=Zb l.length++ZbS l 0
def Zc8 (l:Xu) (a:Nat):Option (Nat×Xu):=if (Zk l).2.2≠0\/a<(Zk l).1 then none else some ((Zk l).1,l.drop (Zk l).2.1)
theorem Zck {n a:Nat} (h:n<=a) (c:n<18446744073709551616) (r:Xu):Zc8 (Zb n++r) a=some (n,r):=by
 unfold Zc8;rw [ZdW n c r];dsimp only;rw [Xau,Xa (by simp;omega)]
def rdX (ahead:Xu) (l:Xu):Option (ZQ×Xu) :=
 match Zc8 l ahead.length with
 | none=>none
 | some (k,l1) =>
   if (ZW l1 65).2.2≠0 then none
   else match Zc8 (l1.drop (ZW l1 65).2.1) 67108864 with
    | none=>none
    | some (o,l2)=>match Zc8 l2 67108864 with
      | none=>none
      | some (m,l3)=>match Zc8 l3 67108864 with
        | none=>none
        | some (n,l4)=>some ((ahead.take k++(ZW l1 65).1,((o:Int),((m:Int),(n:Int)))),l4)
theorem ZtO {x:ZQ} (h:okX x=true) (hl:ahead.length<=65) (r:Xu):rdX ahead (Zec ahead x++r)=some (x,r):=by
 obtain ⟨⟨h1,h2⟩,d,c,a⟩:=Zfe.1 h;have hs:=ZdJ ahead x.1;unfold rdX Zec;simp only [Xl];rw [Zck hs.1 (by omega)];dsimp only;rw [Zi4 (x.1.drop (ZJ ahead x.1)) (by rw [Xj];omega) 65 (by rw [Xj];omega)];dsimp only;rw [Xa (by simp),Xau,Zck (by omega) (by omega)];dsimp only;rw [Zck (by omega) (by omega)];dsimp only;rw [Zck (by omega) (by omega)];dsimp only;rw [ZgB,X6];obtain ⟨t,o,m,n⟩:=x;dsimp only at d c a ⊢;rw [show ((o.toNat:Nat):Int)=o by omega,show ((m.toNat:Nat):Int)=m by omega,show ((n.toNat:Nat):Int)=n by omega]
def Ziy:Nat->Nat->Xu->List ZQ->Xu->Option (List ZQ)
 | 0,_,_,acc,_=>some acc
 | f+1,i,ahead,acc,l =>
   if i%16=0 then
    match Zc8 l 1073741824 with
    | none=>none
    | some (_,l1)=>match rdX [] l1 with
      | none=>none
      | some (x,r)=>Ziy f (i+1) x.1 (acc++[x]) r
   else match rdX ahead l with
    | none=>none
    | some (x,r)=>Ziy f (i+1) x.1 (acc++[x]) r
def Zhu (l:List ZQ) (i:Nat):Xu :=
 if i%16=0 then ZbS l (i / 16) else ZE ((l.getD (i - 1) ([],0,0,0)).1) ((l.drop i).take (16 - i%16))++ZbS l (i / 16+1)
theorem Zkr {l:List ZQ} {k:Nat} (hi:i<l.length) (hk:0<k) (ahead:Xu):ZE ahead ((l.drop i).take k)=Zec ahead l[i]++ZE l[i].1 ((l.drop (i+1)).take (k - 1)):=by
 obtain ⟨k,rfl⟩:∃j,k=j+1:=⟨k - 1,by omega⟩;rw [X9 hi,Xaz,ZE];simp
theorem ZoH {l:List ZQ} (hi:i<l.length):ZE l[i].1 ((l.drop (i+1)).take (15 - i%16))++ZbS l (i / 16+1)=Zhu l (i+1):=by
 unfold Zhu
 by_cases h:(i+1)%16=0
 ·rw [Xe h];have e:15 - i%16=0:=by omega
  rw [e,XaJ,ZE,Xz];congr 1
  omega
 ·rw [Xa h];have a:(i+1) / 16=i / 16:=by omega
  have c:16 - (i+1)%16=15 - i%16:=by omega
  rw [a,c];congr 2
  simp [List.getD,hi]
theorem ZvS {l:List ZQ} (hi:i<l.length) (h:¬i%16=0):Zhu l i=Zec (l.getD (i - 1) ([],0,0,0)).1 l[i]++Zhu l (i+1):=by
 conv=>lhs;unfold Zhu
 rw [Xa h,Zkr hi (by omega),Xl,show 16 - i%16 - 1=15 - i%16 by omega,ZoH hi]
theorem ZsX {l:List ZQ} (hi:i<l.length) (h:i%16=0):Zhu l i=Zb (ZE [] (ZB l (i / 16))).length++(Zec [] l[i]++Zhu l (i+1)):=by
 conv=>lhs;unfold Zhu
 rw [Xe h,ZiV (by unfold Zu;omega)];unfold Zfv;rw [Xl];congr 1
 unfold ZB;rw [show 16*(i / 16)=i by omega,Zkr hi (by omega),Xl,<- ZoH hi,show 16 - 1=15 - i%16 by omega]
theorem Zl5 {x:ZQ} (h:okX x=true):(Zec ahead x).length<=115:=by
 obtain ⟨⟨h1,h2⟩,_⟩:=Zfe.1 h;unfold Zec;simp only [Xd];have b1:=Zc (ZJ ahead x.1);have b2:=Zc x.2.1.toNat;have b3:=Zc x.2.2.1.toNat;have b4:=Zc x.2.2.2.toNat;have a:=(EM.ZdL (x.1.drop (ZJ ahead x.1))).1;rw [Xj] at a;omega
theorem ZbQ:∀(l:List ZQ) (ahead:Xu),(∀x∈l,okX x=true)->(ZE ahead l).length<=115*l.length
 | [],_,_=>by simp [ZE]
 | x::r,ahead,h=>by
   rw [ZE,Xd,Xh];have h1:=Zl5 (ahead:=ahead) (h x (by simp));have h2:=ZbQ r x.1 fun y a=>h y (by simp [a]);omega
theorem ZmI {l:List ZQ} (h:∀x∈l,okX x=true):∀(f i:Nat) (ahead:Xu),i+f=l.length->(¬i%16=0->ahead=(l.getD (i - 1) ([],0,0,0)).1)->Ziy f i ahead (l.take i) (Zhu l i)=some l
 | 0,i,ahead,hf,_=>by
   rw [Ziy,XM (by omega)]
 | f+1,i,ahead,hf,ha=>by
   have hi:i<l.length:=by omega
   have k:=h l[i] (XH hi)
   have c:∀a,a=l[i].1->Ziy f (i+1) a (l.take i++[l[i]]) (Zhu l (i+1))=some l:=fun a e=>by
    rw [<- XG hi];refine ZmI h f (i+1) a (by omega) fun _ => ?_;rw [e];simp [List.getD,hi]
   rw [Ziy]
   by_cases d:i%16=0
   ·have o:(ZE [] (ZB l (i / 16))).length<=1840:=by
     have:=ZbQ (ZB l (i / 16)) [] fun x k=>h x (XaX (Xaq k));have m:(ZB l (i / 16)).length<=16:=by unfold ZB;rw [Xi];omega
     omega
    rw [Xe d,ZsX hi d,Zck (by omega) (by omega)];dsimp only;rw [ZtO k (by simp)];exact c _ rfl
   ·have n:(l.getD (i - 1) ([],0,0,0)).1.length<=65:=by
     have g:i - 1<l.length:=by omega
     have e:l.getD (i - 1) ([],0,0,0)=l[i - 1]:=by simp [List.getD,g]
     rw [e];exact (Zfe.1 (h l[i - 1] (XH g))).1.2
    rw [Xa d,ZvS hi d,ha d,ZtO k n];exact c _ rfl
def rdD (b:Xu):Option (List ZQ):=match Zc8 b 262144 with
 | none=>none
 | some (n,r)=>Ziy n 0 [] [] r
def Zng (b:Xu):Option (List ZQ):=match rdD b with
 | none=>none
 | some l=>if Zb7 l=true/\ZbJ l=b then some l else none
theorem ZlI:∀{l:List ZQ} {p:Option Xu},Zf2 p l=true->∀x∈l,okX x=true
 | [],_,_=>by simp
 | x::r,p,h=>by
   rw [Zds,Xy,Xy] at h;intro y a;rcases XS.1 a with rfl|a
   ·exact h.1.1
   ·exact ZlI h.2 y a
theorem ZgU {l:List ZQ} (h:Zb7 l=true):l.length<=262144/\∀x∈l,okX x=true:=by
 unfold Zb7 at h;rw [Xy,Xg] at h;exact ⟨h.1,ZlI h.2⟩
theorem ZBj {l:List ZQ} (h:Zb7 l=true):rdD (ZbJ l)=some l:=by
 obtain ⟨d,c⟩:=ZgU h;unfold rdD ZbJ;rw [Zck d (by omega)];have:=ZmI c l.length 0 [] (by omega) (fun a=>absurd rfl a);simpa [Zhu] using this
theorem Zp3 {l:List ZQ} (h:Zb7 l=true):Zng (ZbJ l)=some l:=by
 unfold Zng;rw [ZBj h];simp [h]
theorem ZnK {l:List ZQ} (h:Zng b=some l):Zb7 l=true/\ZbJ l=b:=by
 unfold Zng at h
 split at h
 ·cases h
 ·split at h
  ·rename_i a;obtain rfl:=XP h;exact a
  ·cases h
theorem Zw0 {l:List ZQ}:Zng b=some l↔Zb7 l=true/\ZbJ l=b:=⟨ZnK,fun ⟨a,c⟩=>by rw [<- c];exact Zp3 a⟩
end DM
namespace SM
open VM
open EM (Fld Ev ZG Zid ZZ Zcf ZcV Zg4 Zc2 Zlh Zao Zd6 ZaL)
open DM (Zc8 Zck)
abbrev Zo:=Int×Ev
def Zhc:Zo:=(0,(0,[]))
def okS (a:Int) (d:Zo):Bool:=decide (a<d.1)&&decide (d.1<=1099511627776)&&decide (ZG d.2=0)
theorem Zgq {a:Int} {d:Zo}:okS a d=true↔a<d.1/\d.1<=1099511627776/\ZG d.2=0:=by
 unfold okS;simp only [Xy,Xg,and_assoc]
def isR:Int->List Zo->Bool
 | _,[]=>true
 | last,d::r=>okS last d&&isR d.1 r
def isS (l:List Zo):Bool:=decide (l.length<=65536)&&isR 0 l
theorem Zmt {l:List Zo} {a:Int} {k:Nat} (b:k<l.length):isR a (l.drop k)=(okS a l[k]&&isR l[k].1 (l.drop (k+1))):=by
 rw [X9 b,isR]
theorem ZtD (l:List Zo) (a:Int):isR a (l.drop l.length)=true:=by rw [Xae,isR]
def ZaK (l:List Zo):Nat->Int
 | 0=>0
 | k+1=>(l.getD k Zhc).1
theorem Zgm {l:List Zo} {k:Nat} (a:k<l.length):ZaK l (k+1)=l[k].1:=by simp [ZaK,List.getD,a]
theorem ZxX:∀{l:List Zo} {a:Int},isR a l=true->∀(k:Nat) (b:k<l.length),okS (if k=0 then a else ZaK l k) l[k]=true
 | [],_,_,k,b=>by simp at b
 | d::r,a,h,0,b=>by
   rw [isR,Xy] at h;exact h.1
 | d::r,a,h,k+1,b=>by
   rw [isR,Xy] at h;have ih:=ZxX h.2 k (by simpa using b)
   have e:(if k=0 then d.1 else ZaK r k)=(if k+1=0 then a else ZaK (d::r) (k+1)):=by
    cases k with
    | zero=>simp [ZaK]
    | succ k=>simp [ZaK]
   rw [<- e];exact ih
theorem Zbx {l:List Zo}:isS l=true↔l.length<=65536/\isR 0 l=true:=by
 unfold isS;rw [Xy,Xg]
theorem Zfy {l:List Zo} (h:isS l=true) {k:Nat} (a:k<l.length):ZaK l k<l[k].1/\l[k].1<=1099511627776/\ZG l[k].2=0:=by
 have:=ZxX (Zbx.1 h).2 k a
 have e:(if k=0 then 0 else ZaK l k)=ZaK l k:=by
  cases k with
  | zero=>simp [ZaK]
  | succ k=>simp
 rw [e] at this;exact Zgq.1 this
theorem ZcA {l:List Zo} (h:isS l=true):∀{k:Nat},k<=l.length->0<=ZaK l k/\ZaK l k<=1099511627776
 | 0,_=>by simp [ZaK]
 | k+1,hk=>by
   have h1:=ZcA h (k:=k) (by omega);have h2:=Zfy h (k:=k) (by omega);rw [Zgm (by omega)];omega
def Zk4 (l:List Zo) (k:Nat):Xu:=Zb ((l.getD k Zhc).1 - ZaK l k - 1).toNat++ZZ (l.getD k Zhc).2
theorem Zff {l:List Zo} {k:Nat} (a:k<l.length):Zk4 l k=Zb (l[k].1 - ZaK l k - 1).toNat++ZZ l[k].2:=by
 unfold Zk4;simp [List.getD,a]
def ZO (l:List Zo) (i k:Nat):Xu:=(List.range' i (k - i)).flatMap (Zk4 l)
theorem Zcp (l:List Zo) (i:Nat):ZO l i i=[]:=by simp [ZO]
theorem Zco {l:List Zo} {i k:Nat} (h:i<=k):ZO l i (k+1)=ZO l i k++Zk4 l k:=by
 unfold ZO;rw [show k+1 - i=k - i+1 by omega,List.range'_1_concat,XaR,show i+(k - i)=k by omega];simp
theorem ZqW {l:List Zo} {i k:Nat} (h:i<k):ZO l i k=Zk4 l i++ZO l (i+1) k:=by
 unfold ZO;rw [show k - i=(k - (i+1))+1 by omega,List.range'_succ,XaQ]
theorem ZiA {l:List Zo} {i j:Nat} (a:i<=j):∀{k:Nat},j<=k->ZO l i j++ZO l j k=ZO l i k
 | 0,h2=>by
   obtain rfl:j=0:=by omega
   obtain rfl:i=0:=by omega
   simp [ZO]
 | k+1,h2=>by
   by_cases e:j=k+1
   ·subst e;rw [Zcp,XI]
   ·rw [Zco (by omega),Zco (by omega),<- Xl,ZiA a (by omega)]
def Zbt (l:List Zo) (c:Nat):Nat:=min (16*c+16) l.length
def Zg8 (l:List Zo) (c:Nat):Xu:=Zb (ZaK l (Zbt l c)).toNat++Zb (ZO l (16*c) (Zbt l c)).length
def Zas (l:List Zo) (a c:Nat):Xu:=(List.range' a c).flatMap (Zg8 l)
theorem Zfc (l:List Zo) (a:Nat):Zas l a 0=[]:=by simp [Zas]
theorem Zfb (l:List Zo) (a c:Nat):Zas l a (c+1)=Zas l a c++Zg8 l (a+c):=by
 unfold Zas;rw [List.range'_1_concat,XaR];simp
theorem Zqr (l:List Zo) (a c:Nat):Zas l a (c+1)=Zg8 l a++Zas l (a+1) c:=by
 unfold Zas;rw [List.range'_succ,XaQ]
def Zv (n:Nat):Nat:=(n+15) / 16
def encS (l:List Zo):Xu:=Zb l.length++(Zas l 0 (Zv l.length)++ZO l 0 l.length)
theorem ZqH {l:List Zo} (h:isS l=true) {k:Nat} (a:k<l.length):(Zk4 l k).length<=67000/\1<=(Zk4 l k).length:=by
 rw [Zff a,Xd];obtain ⟨h1,h2,c⟩:=Zfy h a;obtain ⟨h4,b⟩:=ZaL.1 c;have b1:=Zc (l[k].1 - ZaK l k - 1).toNat;have b2:=Zcf l[k].2;have b3:=Zd6 b;omega
theorem Zbv {l:List Zo} (h:isS l=true) {i:Nat}:∀{k:Nat},i<=k->k<=l.length->(ZO l i k).length<=67000*(k - i)/\k - i<=(ZO l i k).length
 | 0,h1,_=>by
   obtain rfl:i=0:=by omega
   simp [ZO]
 | k+1,h1,h2=>by
   by_cases e:i=k+1
   ·subst e;rw [Zcp];simp
   ·have ih:=Zbv h (i:=i) (k:=k) (by omega) (by omega);have b:=ZqH h (k:=k) (by omega);rw [Zco (by omega),Xd];omega
def Ze1:Nat->Xu->Option Xu
 | 0,l=>some l
 | k+1,l=>match Zc8 l 1099511627776 with
   | none=>none
   | some (_,x)=>match Zc8 x 1099511627776 with
     | none=>none
     | some (_,y)=>Ze1 k y
def rdR:Nat->Int->List Zo->Xu->Option (List Zo)
 | 0,_,acc,_=>some acc
 | f+1,last,acc,l=>match Zc8 l 1099511627776 with
   | none=>none
   | some (d,x)=>match ZcV x with
     | none=>none
     | some (e,y)=>rdR f (last+1+d) (acc++[(last+1+d,e)]) y
def rdS (b:Xu):Option (List Zo):=match Zc8 b 65536 with
 | none=>none
 | some (n,r)=>if b.length<n then none else match Ze1 (Zv n) r with
   | none=>none
   | some y=>rdR n 0 [] y
def Zek (b:Xu):Option (List Zo):=match rdS b with
 | none=>none
 | some l=>if isS l=true/\encS l=b then some l else none
def ZaH (l:List Zo):Prop:=∀d∈l,Zid d.2
theorem ZoD {l:List Zo} (h:isS l=true):∀(f c:Nat) (r:Xu),16*(c+f)<=l.length+15->Ze1 f (Zas l c f++r)=some r
 | 0,c,r,_=>by rw [Zfc,Ze1];rfl
 | f+1,c,r,hc=>by
   have a:Zbt l c<=l.length:=by unfold Zbt;omega
   have hs:16*c<=Zbt l c:=by unfold Zbt;omega
   have hd:Zbt l c - 16*c<=16:=by unfold Zbt;omega
   have h1:=ZcA h a;have h2:=Zbv h hs a;rw [Zqr,Ze1];unfold Zg8;simp only [Xl];rw [Zck (by omega) (by omega)];dsimp only;rw [Zck (by omega) (by omega)];dsimp only;exact ZoD h f (c+1) r (by omega)
theorem ZtN {l:List Zo} (h:isS l=true) (b:ZaH l) (r:Xu):∀(f k:Nat),k+f=l.length->rdR f (ZaK l k) (l.take k) (ZO l k l.length++r)=some l
 | 0,k,hk=>by
   rw [rdR,XM (by omega)]
 | f+1,k,hk=>by
   have a:k<l.length:=by omega
   obtain ⟨h1,h2,c⟩:=Zfy h a;have h0:=ZcA h (k:=k) (by omega);rw [rdR,ZqW a,Zff a];simp only [Xl];rw [Zck (by omega) (by omega)];dsimp only;rw [Zg4 (b _ (XH a)) c];dsimp only;have e:ZaK l k+1+((l[k].1 - ZaK l k - 1).toNat:Nat)=l[k].1:=by omega
   rw [e];have:=ZtN h b r f (k+1) (by omega);rw [Zgm a,XG a] at this;exact this
theorem Zl4 {l:List Zo} (h:isS l=true):l.length<(encS l).length:=by
 unfold encS;simp only [Xd];have h1:=Zc l.length;have h2:=(Zbv h (i:=0) (k:=l.length) (by omega) (by omega)).2;omega
theorem ZBl {l:List Zo} (h:isS l=true) (b:ZaH l) (r:Xu):rdS (encS l++r)=some l:=by
 have hl:=Zl4 h;have c:=(Zbx.1 h).1;unfold rdS
 have e:encS l++r=Zb l.length++(Zas l 0 (Zv l.length)++(ZO l 0 l.length++r)):=by
  unfold encS;simp only [Xl]
 have a:Zc8 (encS l++r) 65536=some (l.length,Zas l 0 (Zv l.length)++(ZO l 0 l.length++r)):=by
  rw [e,Zck c (by omega)]
 rw [a];dsimp only;rw [Xa (by rw [Xd];omega),ZoD h _ _ _ (by unfold Zv;omega)];exact ZtN h b r l.length 0 (by omega)
theorem ZgY {l:List Zo} (h:isS l=true) (a:ZaH l):Zek (encS l)=some l:=by
 have:=ZBl h a [];rw [XI] at this;unfold Zek;rw [this];simp [h]
theorem ZtM:∀(f:Nat) (a:Int) (acc:List Zo) (b:Xu) {l:List Zo},ZaH acc->rdR f a acc b=some l->ZaH l
 | 0,_,acc,b,l,ha,h=>by
   rw [rdR] at h;obtain rfl:=XP h;exact ha
 | f+1,a,acc,b,l,ha,h=>by
   rw [rdR] at h
   split at h
   ·cases h
   ·split at h
    ·cases h
    ·rename_i e y g;refine ZtM f _ _ _ ?_ h;intro d c;rcases Xak.1 c with c|c
     ·exact ha d c
     ·obtain rfl:=XaF.1 c;exact (Zc2 g).2.1
theorem Zcv {b:Xu} {l:List Zo} (h:Zek b=some l):isS l=true/\ZaH l/\encS l=b:=by
 unfold Zek at h
 split at h
 ·cases h
 ·rename_i m a
  split at h
  ·rename_i c;obtain rfl:=XP h;refine ⟨c.1,?_,c.2⟩;unfold rdS at a
   split at a
   ·cases a
   ·split at a
    ·cases a
    ·split at a
     ·cases a
     ·exact ZtM _ _ _ _ (fun d e=>by simp at e) a
  ·cases h
end SM
namespace UM
open RowKit
variable {r:Int}
theorem ZaJ:(prog.info? 5).map (fun i=>(i.zero,i.size,i.bytes))=some (some (.int .u8 0),1,1):=by kernel_rfl
def Zbm (B:Nat) (v:Value) (n:Nat) (a:List Value) (r:Int) (w:World) (e:Ending) (w':World):Prop :=
 ∃v',e=.returned v'/\w'.ownsRow B 5 1 v' (n+(Lib.runeCells r).length) (a++Lib.runeCells r)/\∃o,(w.alloc o).grownBy w' v.ownBlock
theorem cells_one (a:0<=r) (b:r<=127):Lib.runeCells r=[.int .u8 r]:=by unfold Lib.runeCells;rw [Lib.encodeRuneZ_one a b];rfl
theorem Zuf (a:128<=r) (b:r<=2047):Lib.runeCells r=[.int .u8 (192+r / 64),.int .u8 (128+r%64)]:=by unfold Lib.runeCells;rw [Lib.encodeRuneZ_two a b];rfl
theorem Zkv (h:(2048<=r/\r<55296)\/(57343<r/\r<=65535)):Lib.runeCells r=[.int .u8 (224+r / 4096),.int .u8 (128+r / 64%64),.int .u8 (128+r%64)]:=by unfold Lib.runeCells;rw [Lib.encodeRuneZ_three h];rfl
theorem ZrM (a:65536<=r) (b:r<=1114111):Lib.runeCells r=[.int .u8 (240+r / 262144),.int .u8 (128+r / 4096%64),.int .u8 (128+r / 64%64),.int .u8 (128+r%64)]:=by unfold Lib.runeCells;rw [Lib.encodeRuneZ_four a b];rfl
theorem ZlR (r:Int):Lib.runeCells (norm r)=Lib.runeCells r:=by unfold Lib.runeCells;rw [ZfJ]
theorem ZBg (B:Nat) (v:Value) (n:Nat) (h:List Value) (r:Int) (i:0<=r) (k:r<=127) (w:World) (c:w.ownsRow B 5 1 v n h) (g:n+4<=140737488355328) (j:B<=w.heap.size) :
  Calls prog 221 #[v,.int .i64 r] w (Zbm B v n h r w):=by
 unfold Zbm;rw [cells_one i k];obtain ⟨i0,hi,e,f,d⟩:=info_parts ZaJ;have s1:¬r<0:=by omega
 have s2:¬ 1114111<r:=by omega
 have s3:¬ 55296<=r:=by omega
 go_enter func221,ntmps221;go_wp2_with (at_builtin;refine wpList_append_own _ rfl _ _ 23 rfl B 5 i0 (.int .u8 0) 1 1 underlying23 hi e f d rfl (by decide) _ _ _ rfl (c.alloc _) ⟨w.heap.size,0,none⟩ 1 1 [.int .u8 r] rfl rfl ?c1 ?c2 ?c3 ?c4 ?c5 ?_)
 case c2=>rfl
 case c3=>unfold maxLen;omega
 case c4=>omega
 case c5=>omega
 intro v' w2 b a _;go_wp2;go_ret;exact ⟨_,rfl,b,_,a⟩
theorem ZBh (B:Nat) (v:Value) (n:Nat) (h:List Value) (r:Int) (i:128<=r) (k:r<=2047) (w:World) (c:w.ownsRow B 5 1 v n h) (g:n+4<=140737488355328) (j:B<=w.heap.size) :
  Calls prog 221 #[v,.int .i64 r] w (Zbm B v n h r w):=by
 unfold Zbm;rw [Zuf i k];obtain ⟨i0,hi,e,f,d⟩:=info_parts ZaJ;have s1:¬r<0:=by omega
 have s2:¬ 1114111<r:=by omega
 have s3:¬ 55296<=r:=by omega
 have s4:¬r<128:=by omega
 go_enter func221,ntmps221;go_wp2_with (at_builtin;refine wpList_append_own _ rfl _ _ 23 rfl B 5 i0 (.int .u8 0) 1 1 underlying23 hi e f d rfl (by decide) _ _ _ rfl (c.alloc _) ⟨w.heap.size,0,none⟩ 2 2 [.int .u8 (192+r / 64),.int .u8 (128+r%64)] rfl rfl ?c1 ?c2 ?c3 ?c4 ?c5 ?_)
 case c2=>exact ⟨rfl,rfl⟩
 case c3=>unfold maxLen;omega
 case c4=>omega
 case c5=>omega
 intro v' w2 b a _;go_wp2;go_ret;exact ⟨_,rfl,b,_,a⟩
theorem ZCw (B:Nat) (v:Value) (n:Nat) (h:List Value) (r:Int) (h0:2048<=r) (h1:r<55296) (w:World) (c:w.ownsRow B 5 1 v n h) (g:n+4<=140737488355328) (i:B<=w.heap.size) :
  Calls prog 221 #[v,.int .i64 r] w (Zbm B v n h r w):=by
 unfold Zbm;rw [Zkv (by omega)];obtain ⟨i0,hi,e,f,d⟩:=info_parts ZaJ;have s1:¬r<0:=by omega
 have s2:¬ 1114111<r:=by omega
 have s3:¬ 55296<=r:=by omega
 have s4:¬r<128:=by omega
 have s5:¬r<2048:=by omega
 have s6:r<65536:=by omega
 go_enter func221,ntmps221;go_wp2_with (at_builtin;refine wpList_append_own _ rfl _ _ 23 rfl B 5 i0 (.int .u8 0) 1 1 underlying23 hi e f d rfl (by decide) _ _ _ rfl (c.alloc _) ⟨w.heap.size,0,none⟩ 3 3 [.int .u8 (224+r / 4096),.int .u8 (128+r / 64%64),.int .u8 (128+r%64)] rfl rfl ?c1 ?c2 ?c3 ?c4 ?c5 ?_)
 case c2=>exact ⟨rfl,rfl,rfl⟩
 case c3=>unfold maxLen;omega
 case c4=>omega
 case c5=>omega
 intro v' w2 b a _;go_wp2;go_ret;exact ⟨_,rfl,b,_,a⟩
theorem ZyO (B:Nat) (v:Value) (n:Nat) (h:List Value) (r:Int) (h0:57343<r) (h1:r<=65535) (w:World) (c:w.ownsRow B 5 1 v n h) (g:n+4<=140737488355328) (j:B<=w.heap.size) :
  Calls prog 221 #[v,.int .i64 r] w (Zbm B v n h r w):=by
 unfold Zbm;rw [Zkv (by omega)];obtain ⟨i0,hi,e,f,d⟩:=info_parts ZaJ;have s1:¬r<0:=by omega
 have s2:¬ 1114111<r:=by omega
 have s3:55296<=r:=by omega
 have i:¬r<=57343:=by omega
 have s4:¬r<128:=by omega
 have s5:¬r<2048:=by omega
 have s6:r<65536:=by omega
 go_enter func221,ntmps221;go_wp2_with (at_builtin;refine wpList_append_own _ rfl _ _ 23 rfl B 5 i0 (.int .u8 0) 1 1 underlying23 hi e f d rfl (by decide) _ _ _ rfl (c.alloc _) ⟨w.heap.size,0,none⟩ 3 3 [.int .u8 (224+r / 4096),.int .u8 (128+r / 64%64),.int .u8 (128+r%64)] rfl rfl ?c1 ?c2 ?c3 ?c4 ?c5 ?_)
 case c2=>exact ⟨rfl,rfl,rfl⟩
 case c3=>unfold maxLen;omega
 case c4=>omega
 case c5=>omega
 intro v' w2 b a _;go_wp2;go_ret;exact ⟨_,rfl,b,_,a⟩
theorem ZyN (B:Nat) (v:Value) (n:Nat) (h:List Value) (r:Int) (i:65536<=r) (l:r<=1114111) (w:World) (c:w.ownsRow B 5 1 v n h) (g:n+4<=140737488355328) (k:B<=w.heap.size) :
  Calls prog 221 #[v,.int .i64 r] w (Zbm B v n h r w):=by
 unfold Zbm;rw [ZrM i l];obtain ⟨i0,hi,e,f,d⟩:=info_parts ZaJ;have s1:¬r<0:=by omega
 have s2:¬ 1114111<r:=by omega
 have s3:55296<=r:=by omega
 have j:¬r<=57343:=by omega
 have s4:¬r<128:=by omega
 have s5:¬r<2048:=by omega
 have s6:¬r<65536:=by omega
 go_enter func221,ntmps221;go_wp2_with (at_builtin;refine wpList_append_own _ rfl _ _ 23 rfl B 5 i0 (.int .u8 0) 1 1 underlying23 hi e f d rfl (by decide) _ _ _ rfl (c.alloc _) ⟨w.heap.size,0,none⟩ 4 4 [.int .u8 (240+r / 262144),.int .u8 (128+r / 4096%64),.int .u8 (128+r / 64%64),.int .u8 (128+r%64)] rfl rfl ?c1 ?c2 ?c3 ?c4 ?c5 ?_)
 case c2=>exact ⟨rfl,rfl,rfl,rfl⟩
 case c3=>unfold maxLen;omega
 case c5=>omega
 intro v' w2 b a _;go_wp2;go_ret;exact ⟨_,rfl,b,_,a⟩
theorem Zfs {B:Nat} {v:Value} {n:Nat} {a:List Value} {q:Int} {w:World} {e:Ending} {w':World} (b:norm r=q) (h:Zbm B v n a q w e w'):Zbm B v n a r w e w':=by
 subst b;unfold Zbm at *;rw [ZlR] at h;exact h
theorem Zdg (B:Nat) (v:Value) (n:Nat) (h:List Value) (r:Int) (w:World) (a:w.ownsRow B 5 1 v n h) (b:n+4<=140737488355328) (d:B<=w.heap.size) :
  Calls prog 221 #[v,.int .i64 r] w (Zbm B v n h r w):=by
 have c:=ZyO B v n h 65533 (by omega) (by omega) w a b d
 by_cases c1:r<0
 ·have f:norm r=65533:=by unfold norm;rw [Xe (by omega)]
  have l:=hid f;have j:=hid c;clear f c a;go_enter func221,ntmps221;go_wp2_with fail;refine j.out.mono ?_;rintro e w' i;obtain ⟨v',rfl,g⟩:=i;have k:=hid g;clear g;go_wp2;go_ret;exact Zfs l.out ⟨v',rfl,k.out⟩
 by_cases c2:1114111<r
 ·have f:norm r=65533:=by unfold norm;rw [Xe (by omega)]
  have l:=hid f;have j:=hid c;clear f c a;go_enter func221,ntmps221;go_wp2_with fail;refine j.out.mono ?_;rintro e w' i;obtain ⟨v',rfl,g⟩:=i;have k:=hid g;clear g;go_wp2;go_ret;exact Zfs l.out ⟨v',rfl,k.out⟩
 by_cases c3:r<=127
 ·exact ZBg B v n h r (by omega) c3 w a b d
 by_cases q:r<=2047
 ·exact ZBh B v n h r (by omega) q w a b d
 by_cases p:r<55296
 ·exact ZCw B v n h r (by omega) p w a b d
 by_cases c6:r<=57343
 ·have f:norm r=65533:=by unfold norm;rw [Xe (by omega)]
  have o:55296<=r:=by omega
  have l:=hid f;have j:=hid c;clear f c a;go_enter func221,ntmps221;go_wp2_with fail;refine j.out.mono ?_;rintro e w' i;obtain ⟨v',rfl,g⟩:=i;have k:=hid g;clear g;go_wp2;go_ret;exact Zfs l.out ⟨v',rfl,k.out⟩
 by_cases m:r<=65535
 ·exact ZyO B v n h r (by omega) m w a b d
 ·exact ZyN B v n h r (by omega) (by omega) w a b d
def Zo5 (r:Int):Int:=if r<0\/1114111<r then 65533 else r
theorem Zr0 (r:Int):Lib.runeCells (Zo5 r)=Lib.runeCells r:=by
 unfold Zo5
 split
 ·rename_i h;have:norm r=65533:=by unfold norm;rw [Xe (by omega)]
  rw [<- this,ZlR]
 ·rfl
theorem ZAk (r:Int) : -2147483648<=Zo5 r/\Zo5 r<=2147483647:=by unfold Zo5;split<;>omega
theorem Zni (r:Int) (w:World):Calls prog 288 #[.int .i64 r] w fun e w'=>e=.returned (.int .i32 (Zo5 r))/\w=w':=by
 unfold Zo5
 by_cases c1:r<0
 ·rw [Xe (by omega)];go_enter func288,ntmps288;go_wp2;go_ret;exact ⟨rfl,rfl⟩
 ·by_cases c2:1114111<r
  ·rw [Xe (by omega)];go_enter func288,ntmps288;go_wp2;go_ret;exact ⟨rfl,rfl⟩
  ·rw [Xa (by omega)];have c3:0<=r:=by omega
   have c4:r<=1114111:=by omega
   go_enter func288,ntmps288;go_wp2;go_ret;exact ⟨rfl,rfl⟩
def ZbM (k:Nat) (r:Int):Prop:=(1<=k->¬(65<=r/\r<=90))/\(2<=k->¬(192<=r/\r<=214))/\(3<=k->¬(216<=r/\r<=222))/\(4<=k->¬(913<=r/\r<=929))/\(5<=k->¬(931<=r/\r<=939))/\(6<=k->¬(1024<=r/\r<=1039))/\(7<=k->¬(1040<=r/\r<=1071))
theorem Zsl (r:Int):ZbM 0 r:=by unfold ZbM;omega
theorem ZAM (r:Int) (h:ZbM 0 r) (g:¬(65<=r/\r<=90)):ZbM 1 r:=by unfold ZbM at *;omega
theorem ZAN (r:Int) (h:ZbM 1 r) (g:¬(192<=r/\r<=214)):ZbM 2 r:=by unfold ZbM at *;omega
theorem ZAO (r:Int) (h:ZbM 2 r) (g:¬(216<=r/\r<=222)):ZbM 3 r:=by unfold ZbM at *;omega
theorem ZAP (r:Int) (h:ZbM 3 r) (g:¬(913<=r/\r<=929)):ZbM 4 r:=by unfold ZbM at *;omega
theorem ZAQ (r:Int) (h:ZbM 4 r) (g:¬(931<=r/\r<=939)):ZbM 5 r:=by unfold ZbM at *;omega
theorem ZAR (r:Int) (h:ZbM 5 r) (g:¬(1024<=r/\r<=1039)):ZbM 6 r:=by unfold ZbM at *;omega
theorem ZAS (r:Int) (h:ZbM 6 r) (g:¬(1040<=r/\r<=1071)):ZbM 7 r:=by unfold ZbM at *;omega
theorem Zu2 (r:Int) (h:ZbM 7 r):ZR r=r:=by unfold ZbM at h;unfold ZR;(repeat' split)<;>omega
theorem Zx5 (r:Int) (g:65<=r/\r<=90):ZR r=r+32:=by unfold ZR;(repeat' split)<;>omega
theorem Zx6 (r:Int) (g:192<=r/\r<=214):ZR r=r+32:=by unfold ZR;(repeat' split)<;>omega
theorem Zx7 (r:Int) (g:216<=r/\r<=222):ZR r=r+32:=by unfold ZR;(repeat' split)<;>omega
theorem Zx8 (r:Int) (g:913<=r/\r<=929):ZR r=r+32:=by unfold ZR;(repeat' split)<;>omega
theorem Zx9 (r:Int) (g:931<=r/\r<=939):ZR r=r+32:=by unfold ZR;(repeat' split)<;>omega
theorem Zya (r:Int) (g:1024<=r/\r<=1039):ZR r=r+80:=by unfold ZR;(repeat' split)<;>omega
theorem Zyb (r:Int) (g:1040<=r/\r<=1071):ZR r=r+32:=by unfold ZR;(repeat' split)<;>omega
def Zat (k:Nat) (r:Int):Prop:=(1<=k->¬(48<=r/\r<=57))/\(2<=k->¬(65<=r/\r<=90))/\(3<=k->¬(97<=r/\r<=122))/\(4<=k->¬(192<=r/\r<=214))/\(5<=k->¬(216<=r/\r<=246))/\(6<=k->¬(248<=r/\r<=255))/\(7<=k->¬(913<=r/\r<=929))/\(8<=k->¬(931<=r/\r<=974))/\(9<=k->¬(1024<=r/\r<=1119))
theorem Zro (r:Int):Zat 0 r:=by unfold Zat;omega
theorem Zzx (r:Int) (h:Zat 0 r) (g:¬(48<=r/\r<=57)):Zat 1 r:=by unfold Zat at *;omega
theorem Zzy (r:Int) (h:Zat 1 r) (g:¬(65<=r/\r<=90)):Zat 2 r:=by unfold Zat at *;omega
theorem Zzz (r:Int) (h:Zat 2 r) (g:¬(97<=r/\r<=122)):Zat 3 r:=by unfold Zat at *;omega
theorem ZzA (r:Int) (h:Zat 3 r) (g:¬(192<=r/\r<=214)):Zat 4 r:=by unfold Zat at *;omega
theorem ZzB (r:Int) (h:Zat 4 r) (g:¬(216<=r/\r<=246)):Zat 5 r:=by unfold Zat at *;omega
theorem ZzC (r:Int) (h:Zat 5 r) (g:¬(248<=r/\r<=255)):Zat 6 r:=by unfold Zat at *;omega
theorem ZzD (r:Int) (h:Zat 6 r) (g:¬(913<=r/\r<=929)):Zat 7 r:=by unfold Zat at *;omega
theorem ZzE (r:Int) (h:Zat 7 r) (g:¬(931<=r/\r<=974)):Zat 8 r:=by unfold Zat at *;omega
theorem ZzF (r:Int) (h:Zat 8 r) (g:¬(1024<=r/\r<=1119)):Zat 9 r:=by unfold Zat at *;omega
theorem Zs2 (r:Int) (h:Zat 9 r):ZU r=false:=by unfold Zat at h;unfold ZU;exact XB (by omega)
theorem Zv9 (r:Int) (g:48<=r/\r<=57):ZU r=true:=by unfold ZU;exact Xw (by omega)
theorem Zwa (r:Int) (g:65<=r/\r<=90):ZU r=true:=by unfold ZU;exact Xw (by omega)
theorem Zwb (r:Int) (g:97<=r/\r<=122):ZU r=true:=by unfold ZU;exact Xw (by omega)
theorem Zwc (r:Int) (g:192<=r/\r<=214):ZU r=true:=by unfold ZU;exact Xw (by omega)
theorem Zwd (r:Int) (g:216<=r/\r<=246):ZU r=true:=by unfold ZU;exact Xw (by omega)
theorem Zwe (r:Int) (g:248<=r/\r<=255):ZU r=true:=by unfold ZU;exact Xw (by omega)
theorem Zwf (r:Int) (g:913<=r/\r<=929):ZU r=true:=by unfold ZU;exact Xw (by omega)
theorem Zwg (r:Int) (g:931<=r/\r<=974):ZU r=true:=by unfold ZU;exact Xw (by omega)
theorem Zwh (r:Int) (g:1024<=r/\r<=1119):ZU r=true:=by unfold ZU;exact Xw (by omega)
theorem Zfi {k:IntKind} {a b:Int} (h:a=b):Ending.returned (.int k a)=.returned (.int k b):=by rw [h]
theorem ZcL {a b:Bool} (h:a=b):Ending.returned (.bool a)=.returned (.bool b):=by rw [h]
theorem Zu5 (w:World):(Instr.index 339 (.agg #[.int .i64 65,.int .i64 90,.int .i64 32,.int .i64 192,.int .i64 214,.int .i64 32,.int .i64 216,.int .i64 222,.int .i64 32,.int .i64 913,.int .i64 929,.int .i64 32,.int .i64 931,.int .i64 939,.int .i64 32,.int .i64 1024,.int .i64 1039,.int .i64 80,.int .i64 1040,.int .i64 1071,.int .i64 32]) (.int .i64 0)).run prog w=.ok (.agg #[.int .i64 65,.int .i64 90,.int .i64 32]) w:=by kernel_rfl
theorem Zu6 (w:World):(Instr.index 339 (.agg #[.int .i64 65,.int .i64 90,.int .i64 32,.int .i64 192,.int .i64 214,.int .i64 32,.int .i64 216,.int .i64 222,.int .i64 32,.int .i64 913,.int .i64 929,.int .i64 32,.int .i64 931,.int .i64 939,.int .i64 32,.int .i64 1024,.int .i64 1039,.int .i64 80,.int .i64 1040,.int .i64 1071,.int .i64 32]) (.int .i64 1)).run prog w=.ok (.agg #[.int .i64 192,.int .i64 214,.int .i64 32]) w:=by kernel_rfl
theorem Zu7 (w:World):(Instr.index 339 (.agg #[.int .i64 65,.int .i64 90,.int .i64 32,.int .i64 192,.int .i64 214,.int .i64 32,.int .i64 216,.int .i64 222,.int .i64 32,.int .i64 913,.int .i64 929,.int .i64 32,.int .i64 931,.int .i64 939,.int .i64 32,.int .i64 1024,.int .i64 1039,.int .i64 80,.int .i64 1040,.int .i64 1071,.int .i64 32]) (.int .i64 2)).run prog w=.ok (.agg #[.int .i64 216,.int .i64 222,.int .i64 32]) w:=by kernel_rfl
theorem Zu8 (w:World):(Instr.index 339 (.agg #[.int .i64 65,.int .i64 90,.int .i64 32,.int .i64 192,.int .i64 214,.int .i64 32,.int .i64 216,.int .i64 222,.int .i64 32,.int .i64 913,.int .i64 929,.int .i64 32,.int .i64 931,.int .i64 939,.int .i64 32,.int .i64 1024,.int .i64 1039,.int .i64 80,.int .i64 1040,.int .i64 1071,.int .i64 32]) (.int .i64 3)).run prog w=.ok (.agg #[.int .i64 913,.int .i64 929,.int .i64 32]) w:=by kernel_rfl
theorem Zu9 (w:World):(Instr.index 339 (.agg #[.int .i64 65,.int .i64 90,.int .i64 32,.int .i64 192,.int .i64 214,.int .i64 32,.int .i64 216,.int .i64 222,.int .i64 32,.int .i64 913,.int .i64 929,.int .i64 32,.int .i64 931,.int .i64 939,.int .i64 32,.int .i64 1024,.int .i64 1039,.int .i64 80,.int .i64 1040,.int .i64 1071,.int .i64 32]) (.int .i64 4)).run prog w=.ok (.agg #[.int .i64 931,.int .i64 939,.int .i64 32]) w:=by kernel_rfl
theorem Zva (w:World):(Instr.index 339 (.agg #[.int .i64 65,.int .i64 90,.int .i64 32,.int .i64 192,.int .i64 214,.int .i64 32,.int .i64 216,.int .i64 222,.int .i64 32,.int .i64 913,.int .i64 929,.int .i64 32,.int .i64 931,.int .i64 939,.int .i64 32,.int .i64 1024,.int .i64 1039,.int .i64 80,.int .i64 1040,.int .i64 1071,.int .i64 32]) (.int .i64 5)).run prog w=.ok (.agg #[.int .i64 1024,.int .i64 1039,.int .i64 80]) w:=by kernel_rfl
theorem Zvb (w:World):(Instr.index 339 (.agg #[.int .i64 65,.int .i64 90,.int .i64 32,.int .i64 192,.int .i64 214,.int .i64 32,.int .i64 216,.int .i64 222,.int .i64 32,.int .i64 913,.int .i64 929,.int .i64 32,.int .i64 931,.int .i64 939,.int .i64 32,.int .i64 1024,.int .i64 1039,.int .i64 80,.int .i64 1040,.int .i64 1071,.int .i64 32]) (.int .i64 6)).run prog w=.ok (.agg #[.int .i64 1040,.int .i64 1071,.int .i64 32]) w:=by kernel_rfl
theorem Zu4 (r:Int) (w:World):Calls prog 284 #[.int .i64 r] w fun e w'=>e=.returned (.int .i64 (ZR r))/\Below w.heap.size w w':=by
 go_enter func284,ntmps284;go_wp2
 go_loopw [13] (fun i wr=>∃k:Nat,k<=7/\i=.int .i64 k/\ZbM k r/\Below w.heap.size w wr) (fun i _=>7 - (intOf i).toNat)
 case atStart=>exact ⟨0,by omega,rfl,Zsl r,Below.refl _ _⟩
 case round =>
  obtain ⟨k,hk,rfl,b,d⟩:=hrel;have c:=d.size;have l:k=0\/k=1\/k=2\/k=3\/k=4\/k=5\/k=6\/k=7:=by omega
  rcases l with rfl|rfl|rfl|rfl|rfl|rfl|rfl|rfl
  ·have h:=Zu5
   by_cases g:65<=r/\r<=90
   ·have e:=Zx5 r g;obtain ⟨f,j⟩:=g;have E:=hid e;clear e b;go_wp2;go_ret;exact ⟨Zfi (by rw [E.out]),d.alloc c _⟩
   ·have a:=ZAM r b g;clear b
    by_cases f:65<=r
    ·have j:¬r<=90:=by omega
     clear g;go_wp2;go_roundw
     case rel=>exact ⟨1,by omega,by go_num,a,d.alloc c _⟩
     case measure=>simp [intOf]
    ·clear g;go_wp2;go_roundw
     case rel=>exact ⟨1,by omega,by go_num,a,d.alloc c _⟩
     case measure=>simp [intOf]
  ·have h:=Zu6
   by_cases g:192<=r/\r<=214
   ·have e:=Zx6 r g;obtain ⟨f,j⟩:=g;have E:=hid e;clear e b;go_wp2;go_ret;exact ⟨Zfi (by rw [E.out]),d.alloc c _⟩
   ·have a:=ZAN r b g;clear b
    by_cases f:192<=r
    ·have j:¬r<=214:=by omega
     clear g;go_wp2;go_roundw
     case rel=>exact ⟨2,by omega,by go_num,a,d.alloc c _⟩
     case measure=>simp [intOf]
    ·clear g;go_wp2;go_roundw
     case rel=>exact ⟨2,by omega,by go_num,a,d.alloc c _⟩
     case measure=>simp [intOf]
  ·have h:=Zu7
   by_cases g:216<=r/\r<=222
   ·have e:=Zx7 r g;obtain ⟨f,j⟩:=g;have E:=hid e;clear e b;go_wp2;go_ret;exact ⟨Zfi (by rw [E.out]),d.alloc c _⟩
   ·have a:=ZAO r b g;clear b
    by_cases f:216<=r
    ·have j:¬r<=222:=by omega
     clear g;go_wp2;go_roundw
     case rel=>exact ⟨3,by omega,by go_num,a,d.alloc c _⟩
     case measure=>simp [intOf]
    ·clear g;go_wp2;go_roundw
     case rel=>exact ⟨3,by omega,by go_num,a,d.alloc c _⟩
     case measure=>simp [intOf]
  ·have h:=Zu8
   by_cases g:913<=r/\r<=929
   ·have e:=Zx8 r g;obtain ⟨f,j⟩:=g;have E:=hid e;clear e b;go_wp2;go_ret;exact ⟨Zfi (by rw [E.out]),d.alloc c _⟩
   ·have a:=ZAP r b g;clear b
    by_cases f:913<=r
    ·have j:¬r<=929:=by omega
     clear g;go_wp2;go_roundw
     case rel=>exact ⟨4,by omega,by go_num,a,d.alloc c _⟩
     case measure=>simp [intOf]
    ·clear g;go_wp2;go_roundw
     case rel=>exact ⟨4,by omega,by go_num,a,d.alloc c _⟩
     case measure=>simp [intOf]
  ·have h:=Zu9
   by_cases g:931<=r/\r<=939
   ·have e:=Zx9 r g;obtain ⟨f,j⟩:=g;have E:=hid e;clear e b;go_wp2;go_ret;exact ⟨Zfi (by rw [E.out]),d.alloc c _⟩
   ·have a:=ZAQ r b g;clear b
    by_cases f:931<=r
    ·have j:¬r<=939:=by omega
     clear g;go_wp2;go_roundw
     case rel=>exact ⟨5,by omega,by go_num,a,d.alloc c _⟩
     case measure=>simp [intOf]
    ·clear g;go_wp2;go_roundw
     case rel=>exact ⟨5,by omega,by go_num,a,d.alloc c _⟩
     case measure=>simp [intOf]
  ·have h:=Zva
   by_cases g:1024<=r/\r<=1039
   ·have e:=Zya r g;obtain ⟨f,j⟩:=g;have E:=hid e;clear e b;go_wp2;go_ret;exact ⟨Zfi (by rw [E.out]),d.alloc c _⟩
   ·have a:=ZAR r b g;clear b
    by_cases f:1024<=r
    ·have j:¬r<=1039:=by omega
     clear g;go_wp2;go_roundw
     case rel=>exact ⟨6,by omega,by go_num,a,d.alloc c _⟩
     case measure=>simp [intOf]
    ·clear g;go_wp2;go_roundw
     case rel=>exact ⟨6,by omega,by go_num,a,d.alloc c _⟩
     case measure=>simp [intOf]
  ·have h:=Zvb
   by_cases g:1040<=r/\r<=1071
   ·have e:=Zyb r g;obtain ⟨f,j⟩:=g;have E:=hid e;clear e b;go_wp2;go_ret;exact ⟨Zfi (by rw [E.out]),d.alloc c _⟩
   ·have a:=ZAS r b g;clear b
    by_cases f:1040<=r
    ·have j:¬r<=1071:=by omega
     clear g;go_wp2;go_roundw
     case rel=>exact ⟨7,by omega,by go_num,a,d.alloc c _⟩
     case measure=>simp [intOf]
    ·clear g;go_wp2;go_roundw
     case rel=>exact ⟨7,by omega,by go_num,a,d.alloc c _⟩
     case measure=>simp [intOf]
  ·have e:=Zu2 r b;have E:=hid e;clear e b;go_wp2;go_ret;exact ⟨Zfi (by rw [E.out]),d⟩
theorem ZzI (w:World):(Instr.index 335 (.agg #[.int .i64 48,.int .i64 57,.int .i64 65,.int .i64 90,.int .i64 97,.int .i64 122,.int .i64 192,.int .i64 214,.int .i64 216,.int .i64 246,.int .i64 248,.int .i64 255,.int .i64 913,.int .i64 929,.int .i64 931,.int .i64 974,.int .i64 1024,.int .i64 1119]) (.int .i64 0)).run prog w=.ok (.agg #[.int .i64 48,.int .i64 57]) w:=by kernel_rfl
theorem ZzJ (w:World):(Instr.index 335 (.agg #[.int .i64 48,.int .i64 57,.int .i64 65,.int .i64 90,.int .i64 97,.int .i64 122,.int .i64 192,.int .i64 214,.int .i64 216,.int .i64 246,.int .i64 248,.int .i64 255,.int .i64 913,.int .i64 929,.int .i64 931,.int .i64 974,.int .i64 1024,.int .i64 1119]) (.int .i64 1)).run prog w=.ok (.agg #[.int .i64 65,.int .i64 90]) w:=by kernel_rfl
theorem ZzK (w:World):(Instr.index 335 (.agg #[.int .i64 48,.int .i64 57,.int .i64 65,.int .i64 90,.int .i64 97,.int .i64 122,.int .i64 192,.int .i64 214,.int .i64 216,.int .i64 246,.int .i64 248,.int .i64 255,.int .i64 913,.int .i64 929,.int .i64 931,.int .i64 974,.int .i64 1024,.int .i64 1119]) (.int .i64 2)).run prog w=.ok (.agg #[.int .i64 97,.int .i64 122]) w:=by kernel_rfl
theorem ZzL (w:World):(Instr.index 335 (.agg #[.int .i64 48,.int .i64 57,.int .i64 65,.int .i64 90,.int .i64 97,.int .i64 122,.int .i64 192,.int .i64 214,.int .i64 216,.int .i64 246,.int .i64 248,.int .i64 255,.int .i64 913,.int .i64 929,.int .i64 931,.int .i64 974,.int .i64 1024,.int .i64 1119]) (.int .i64 3)).run prog w=.ok (.agg #[.int .i64 192,.int .i64 214]) w:=by kernel_rfl
theorem ZzM (w:World):(Instr.index 335 (.agg #[.int .i64 48,.int .i64 57,.int .i64 65,.int .i64 90,.int .i64 97,.int .i64 122,.int .i64 192,.int .i64 214,.int .i64 216,.int .i64 246,.int .i64 248,.int .i64 255,.int .i64 913,.int .i64 929,.int .i64 931,.int .i64 974,.int .i64 1024,.int .i64 1119]) (.int .i64 4)).run prog w=.ok (.agg #[.int .i64 216,.int .i64 246]) w:=by kernel_rfl
theorem ZzN (w:World):(Instr.index 335 (.agg #[.int .i64 48,.int .i64 57,.int .i64 65,.int .i64 90,.int .i64 97,.int .i64 122,.int .i64 192,.int .i64 214,.int .i64 216,.int .i64 246,.int .i64 248,.int .i64 255,.int .i64 913,.int .i64 929,.int .i64 931,.int .i64 974,.int .i64 1024,.int .i64 1119]) (.int .i64 5)).run prog w=.ok (.agg #[.int .i64 248,.int .i64 255]) w:=by kernel_rfl
theorem ZzO (w:World):(Instr.index 335 (.agg #[.int .i64 48,.int .i64 57,.int .i64 65,.int .i64 90,.int .i64 97,.int .i64 122,.int .i64 192,.int .i64 214,.int .i64 216,.int .i64 246,.int .i64 248,.int .i64 255,.int .i64 913,.int .i64 929,.int .i64 931,.int .i64 974,.int .i64 1024,.int .i64 1119]) (.int .i64 6)).run prog w=.ok (.agg #[.int .i64 913,.int .i64 929]) w:=by kernel_rfl
theorem ZzP (w:World):(Instr.index 335 (.agg #[.int .i64 48,.int .i64 57,.int .i64 65,.int .i64 90,.int .i64 97,.int .i64 122,.int .i64 192,.int .i64 214,.int .i64 216,.int .i64 246,.int .i64 248,.int .i64 255,.int .i64 913,.int .i64 929,.int .i64 931,.int .i64 974,.int .i64 1024,.int .i64 1119]) (.int .i64 7)).run prog w=.ok (.agg #[.int .i64 931,.int .i64 974]) w:=by kernel_rfl
theorem ZzQ (w:World):(Instr.index 335 (.agg #[.int .i64 48,.int .i64 57,.int .i64 65,.int .i64 90,.int .i64 97,.int .i64 122,.int .i64 192,.int .i64 214,.int .i64 216,.int .i64 246,.int .i64 248,.int .i64 255,.int .i64 913,.int .i64 929,.int .i64 931,.int .i64 974,.int .i64 1024,.int .i64 1119]) (.int .i64 8)).run prog w=.ok (.agg #[.int .i64 1024,.int .i64 1119]) w:=by kernel_rfl
theorem ZzG (r:Int) (w:World):Calls prog 270 #[.int .i64 r] w fun e w'=>e=.returned (.bool (ZU r))/\Below w.heap.size w w':=by
 go_enter func270,ntmps270;go_wp2
 go_loopw [15] (fun i wr=>∃k:Nat,k<=9/\i=.int .i64 k/\Zat k r/\Below w.heap.size w wr) (fun i _=>9 - (intOf i).toNat)
 case atStart=>exact ⟨0,by omega,rfl,Zro r,Below.refl _ _⟩
 case round =>
  obtain ⟨k,hk,rfl,b,d⟩:=hrel;have c:=d.size;have l:k=0\/k=1\/k=2\/k=3\/k=4\/k=5\/k=6\/k=7\/k=8\/k=9:=by omega
  rcases l with rfl|rfl|rfl|rfl|rfl|rfl|rfl|rfl|rfl|rfl
  ·have h:=ZzI
   by_cases g:48<=r/\r<=57
   ·have e:=Zv9 r g;obtain ⟨f,j⟩:=g;have E:=hid e;clear e b;go_wp2;go_ret;exact ⟨ZcL (by rw [E.out]),d.alloc c _⟩
   ·have a:=Zzx r b g;clear b
    by_cases f:48<=r
    ·have j:¬r<=57:=by omega
     clear g;go_wp2;go_roundw
     case rel=>exact ⟨1,by omega,by go_num,a,d.alloc c _⟩
     case measure=>simp [intOf]
    ·clear g;go_wp2;go_roundw
     case rel=>exact ⟨1,by omega,by go_num,a,d.alloc c _⟩
     case measure=>simp [intOf]
  ·have h:=ZzJ
   by_cases g:65<=r/\r<=90
   ·have e:=Zwa r g;obtain ⟨f,j⟩:=g;have E:=hid e;clear e b;go_wp2;go_ret;exact ⟨ZcL (by rw [E.out]),d.alloc c _⟩
   ·have a:=Zzy r b g;clear b
    by_cases f:65<=r
    ·have j:¬r<=90:=by omega
     clear g;go_wp2;go_roundw
     case rel=>exact ⟨2,by omega,by go_num,a,d.alloc c _⟩
     case measure=>simp [intOf]
    ·clear g;go_wp2;go_roundw
     case rel=>exact ⟨2,by omega,by go_num,a,d.alloc c _⟩
     case measure=>simp [intOf]
  ·have h:=ZzK
   by_cases g:97<=r/\r<=122
   ·have e:=Zwb r g;obtain ⟨f,j⟩:=g;have E:=hid e;clear e b;go_wp2;go_ret;exact ⟨ZcL (by rw [E.out]),d.alloc c _⟩
   ·have a:=Zzz r b g;clear b
    by_cases f:97<=r
    ·have j:¬r<=122:=by omega
     clear g;go_wp2;go_roundw
     case rel=>exact ⟨3,by omega,by go_num,a,d.alloc c _⟩
     case measure=>simp [intOf]
    ·clear g;go_wp2;go_roundw
     case rel=>exact ⟨3,by omega,by go_num,a,d.alloc c _⟩
     case measure=>simp [intOf]
  ·have h:=ZzL
   by_cases g:192<=r/\r<=214
   ·have e:=Zwc r g;obtain ⟨f,j⟩:=g;have E:=hid e;clear e b;go_wp2;go_ret;exact ⟨ZcL (by rw [E.out]),d.alloc c _⟩
   ·have a:=ZzA r b g;clear b
    by_cases f:192<=r
    ·have j:¬r<=214:=by omega
     clear g;go_wp2;go_roundw
     case rel=>exact ⟨4,by omega,by go_num,a,d.alloc c _⟩
     case measure=>simp [intOf]
    ·clear g;go_wp2;go_roundw
     case rel=>exact ⟨4,by omega,by go_num,a,d.alloc c _⟩
     case measure=>simp [intOf]
  ·have h:=ZzM
   by_cases g:216<=r/\r<=246
   ·have e:=Zwd r g;obtain ⟨f,j⟩:=g;have E:=hid e;clear e b;go_wp2;go_ret;exact ⟨ZcL (by rw [E.out]),d.alloc c _⟩
   ·have a:=ZzB r b g;clear b
    by_cases f:216<=r
    ·have j:¬r<=246:=by omega
     clear g;go_wp2;go_roundw
     case rel=>exact ⟨5,by omega,by go_num,a,d.alloc c _⟩
     case measure=>simp [intOf]
    ·clear g;go_wp2;go_roundw
     case rel=>exact ⟨5,by omega,by go_num,a,d.alloc c _⟩
     case measure=>simp [intOf]
  ·have h:=ZzN
   by_cases g:248<=r/\r<=255
   ·have e:=Zwe r g;obtain ⟨f,j⟩:=g;have E:=hid e;clear e b;go_wp2;go_ret;exact ⟨ZcL (by rw [E.out]),d.alloc c _⟩
   ·have a:=ZzC r b g;clear b
    by_cases f:248<=r
    ·have j:¬r<=255:=by omega
     clear g;go_wp2;go_roundw
     case rel=>exact ⟨6,by omega,by go_num,a,d.alloc c _⟩
     case measure=>simp [intOf]
    ·clear g;go_wp2;go_roundw
     case rel=>exact ⟨6,by omega,by go_num,a,d.alloc c _⟩
     case measure=>simp [intOf]
  ·have h:=ZzO
   by_cases g:913<=r/\r<=929
   ·have e:=Zwf r g;obtain ⟨f,j⟩:=g;have E:=hid e;clear e b;go_wp2;go_ret;exact ⟨ZcL (by rw [E.out]),d.alloc c _⟩
   ·have a:=ZzD r b g;clear b
    by_cases f:913<=r
    ·have j:¬r<=929:=by omega
     clear g;go_wp2;go_roundw
     case rel=>exact ⟨7,by omega,by go_num,a,d.alloc c _⟩
     case measure=>simp [intOf]
    ·clear g;go_wp2;go_roundw
     case rel=>exact ⟨7,by omega,by go_num,a,d.alloc c _⟩
     case measure=>simp [intOf]
  ·have h:=ZzP
   by_cases g:931<=r/\r<=974
   ·have e:=Zwg r g;obtain ⟨f,j⟩:=g;have E:=hid e;clear e b;go_wp2;go_ret;exact ⟨ZcL (by rw [E.out]),d.alloc c _⟩
   ·have a:=ZzE r b g;clear b
    by_cases f:931<=r
    ·have j:¬r<=974:=by omega
     clear g;go_wp2;go_roundw
     case rel=>exact ⟨8,by omega,by go_num,a,d.alloc c _⟩
     case measure=>simp [intOf]
    ·clear g;go_wp2;go_roundw
     case rel=>exact ⟨8,by omega,by go_num,a,d.alloc c _⟩
     case measure=>simp [intOf]
  ·have h:=ZzQ
   by_cases g:1024<=r/\r<=1119
   ·have e:=Zwh r g;obtain ⟨f,j⟩:=g;have E:=hid e;clear e b;go_wp2;go_ret;exact ⟨ZcL (by rw [E.out]),d.alloc c _⟩
   ·have a:=ZzF r b g;clear b
    by_cases f:1024<=r
    ·have j:¬r<=1119:=by omega
     clear g;go_wp2;go_roundw
     case rel=>exact ⟨9,by omega,by go_num,a,d.alloc c _⟩
     case measure=>simp [intOf]
    ·clear g;go_wp2;go_roundw
     case rel=>exact ⟨9,by omega,by go_num,a,d.alloc c _⟩
     case measure=>simp [intOf]
  ·have e:=Zs2 r b;have E:=hid e;clear e b;go_wp2;go_ret;exact ⟨ZcL (by rw [E.out]),d⟩
theorem ZsG (r:Int) (w:World):Calls prog 180 #[.int .i64 r] w fun e w'=>e=.returned (.int .i64 (ZR r))/\w=w':=by
 rcases (by omega:r<=64\/(65<=r/\r<=90)\/(91<=r/\r<=191)\/(192<=r/\r<=214)\/(215<=r/\r<=215)\/(216<=r/\r<=222)\/(223<=r/\r<=912)\/(913<=r/\r<=929)\/(930<=r/\r<=930)\/(931<=r/\r<=939)\/(940<=r/\r<=1023)\/(1024<=r/\r<=1039)\/(1040<=r/\r<=1071)\/1072<=r) with g|g|g|g|g|g|g|g|g|g|g|g|g|g
 all_goals
  first|(have j:(r == 215)=false:=by simp;omega)|(have j:(r == 215)=true:=by simp;omega)
  first|(have l:(r != 215)=false:=by simp;omega)|(have l:(r != 215)=true:=by simp;omega)
  first|(have m:(r == 930)=false:=by simp;omega)|(have m:(r == 930)=true:=by simp;omega)
  first|(have n:(r != 930)=false:=by simp;omega)|(have n:(r != 930)=true:=by simp;omega)
  first|(have p:decide ((65:Int)<=r)=false:=by simp;omega)|(have p:decide ((65:Int)<=r)=true:=by simp;omega)
  first|(have h:decide ((192:Int)<=r)=false:=by simp;omega)|(have h:decide ((192:Int)<=r)=true:=by simp;omega)
  first|(have f:decide ((913:Int)<=r)=false:=by simp;omega)|(have f:decide ((913:Int)<=r)=true:=by simp;omega)
  first|(have d:decide ((1040:Int)<=r)=false:=by simp;omega)|(have d:decide ((1040:Int)<=r)=true:=by simp;omega)
  first|(have a:decide ((1024:Int)<=r)=false:=by simp;omega)|(have a:decide ((1024:Int)<=r)=true:=by simp;omega)
  first|(have o:decide (r<=(90:Int))=false:=by simp;omega)|(have o:decide (r<=(90:Int))=true:=by simp;omega)
  first|(have i:decide (r<=(222:Int))=false:=by simp;omega)|(have i:decide (r<=(222:Int))=true:=by simp;omega)
  first|(have k:decide (r<=(939:Int))=false:=by simp;omega)|(have k:decide (r<=(939:Int))=true:=by simp;omega)
  first|(have b:decide (r<=(1071:Int))=false:=by simp;omega)|(have b:decide (r<=(1071:Int))=true:=by simp;omega)
  first|(have c:decide (r<=(1039:Int))=false:=by simp;omega)|(have c:decide (r<=(1039:Int))=true:=by simp;omega)
  try have z0:0<=r:=by omega
  try have z1:r<=2000:=by omega
  first|(have e:ZR r=r:=(by unfold ZR;omega);rw [e])|(have e:ZR r=r+32:=(by unfold ZR;omega);rw [e])|(have e:ZR r=r+80:=(by unfold ZR;omega);rw [e])
  clear e g;go_enter func180,ntmps180;go_wp2;go_ret;exact ⟨rfl,rfl⟩
theorem ZvK (r:Int) (w:World):Calls prog 120 #[.int .i64 r] w fun e w'=>e=.returned (.bool (ZU r))/\w=w':=by
 rcases (by omega:r<=47\/(48<=r/\r<=57)\/(58<=r/\r<=64)\/(65<=r/\r<=90)\/(91<=r/\r<=96)\/(97<=r/\r<=122)\/(123<=r/\r<=191)\/(192<=r/\r<=214)\/(215<=r/\r<=215)\/(216<=r/\r<=246)\/(247<=r/\r<=247)\/(248<=r/\r<=255)\/(256<=r/\r<=912)\/(913<=r/\r<=929)\/(930<=r/\r<=930)\/(931<=r/\r<=974)\/(975<=r/\r<=1023)\/(1024<=r/\r<=1119)\/1120<=r) with g|g|g|g|g|g|g|g|g|g|g|g|g|g|g|g|g|g|g
 all_goals
  first|(have i:(r == 215)=false:=by simp;omega)|(have i:(r == 215)=true:=by simp;omega)
  first|(have k:(r != 215)=false:=by simp;omega)|(have k:(r != 215)=true:=by simp;omega)
  first|(have c:(r == 247)=false:=by simp;omega)|(have c:(r == 247)=true:=by simp;omega)
  first|(have j:(r != 247)=false:=by simp;omega)|(have j:(r != 247)=true:=by simp;omega)
  first|(have n:(r == 930)=false:=by simp;omega)|(have n:(r == 930)=true:=by simp;omega)
  first|(have o:(r != 930)=false:=by simp;omega)|(have o:(r != 930)=true:=by simp;omega)
  first|(have s:decide ((48:Int)<=r)=false:=by simp;omega)|(have s:decide ((48:Int)<=r)=true:=by simp;omega)
  first|(have u:decide ((65:Int)<=r)=false:=by simp;omega)|(have u:decide ((65:Int)<=r)=true:=by simp;omega)
  first|(have p:decide ((97:Int)<=r)=false:=by simp;omega)|(have p:decide ((97:Int)<=r)=true:=by simp;omega)
  first|(have f:decide ((192:Int)<=r)=false:=by simp;omega)|(have f:decide ((192:Int)<=r)=true:=by simp;omega)
  first|(have d:decide ((913:Int)<=r)=false:=by simp;omega)|(have d:decide ((913:Int)<=r)=true:=by simp;omega)
  first|(have a:decide ((1024:Int)<=r)=false:=by simp;omega)|(have a:decide ((1024:Int)<=r)=true:=by simp;omega)
  first|(have t:decide (r<=(57:Int))=false:=by simp;omega)|(have t:decide (r<=(57:Int))=true:=by simp;omega)
  first|(have q:decide (r<=(90:Int))=false:=by simp;omega)|(have q:decide (r<=(90:Int))=true:=by simp;omega)
  first|(have l:decide (r<=(122:Int))=false:=by simp;omega)|(have l:decide (r<=(122:Int))=true:=by simp;omega)
  first|(have h:decide (r<=(255:Int))=false:=by simp;omega)|(have h:decide (r<=(255:Int))=true:=by simp;omega)
  first|(have m:decide (r<=(974:Int))=false:=by simp;omega)|(have m:decide (r<=(974:Int))=true:=by simp;omega)
  first|(have b:decide (r<=(1119:Int))=false:=by simp;omega)|(have b:decide (r<=(1119:Int))=true:=by simp;omega)
  first|(have e:ZU r=false:=(by unfold ZU;exact XB (by omega));rw [e])|(have e:ZU r=true:=(by unfold ZU;exact Xw (by omega));rw [e])
  clear e g;go_enter func120,ntmps120;go_wp2;go_ret;exact ⟨rfl,rfl⟩
end UM
namespace SM
open VM
open EM (Fld Ev ZG Zid ZZ Zcf ZcV Zg4 Zc2 Zlh Zao Zd6 ZaL)
variable {i k:Nat} {a:Int}
def ZbY:Int->List Zo->Xu
 | _,[]=>[]
 | a,d::r=>(Zb (d.1 - a - 1).toNat++ZZ d.2)++ZbY d.1 r
def Za5:Int->List Zo->Int
 | a,[]=>a
 | _,d::r=>Za5 d.1 r
theorem ZnP:∀(a:Int) (c:List Zo) (d:Zo),Za5 a (c++[d])=d.1
 | _,[],_=>rfl
 | _,x::r,d=>ZnP x.1 r d
theorem ZnC:∀(a:Int) (c:List Zo) (d:Zo),ZbY a (c++[d])=ZbY a c++(Zb (d.1 - Za5 a c - 1).toNat++ZZ d.2)
 | a,[],d=>by simp [ZbY,Za5]
 | a,x::r,d=>by
   rw [XJ,ZbY,ZnC x.1 r d,ZbY,Za5,Xl (Zb (x.1 - a - 1).toNat++ZZ x.2)]
theorem ZnB (a:Int) {c:List Zo} (h:i<c.length):ZbY a (c.take (i+1))=ZbY a (c.take i)++(Zb (c[i].1 - Za5 a (c.take i) - 1).toNat++ZZ c[i].2):=by
 rw [XG h,ZnC]
theorem ZjT (a:Int) {c:List Zo} (h:i<c.length):Za5 a (c.take (i+1))=c[i].1:=by
 rw [XG h,ZnP]
theorem ZhQ:∀(a:Int) (c d:List Zo),isR a (c++d)=(isR a c&&isR (Za5 a c) d)
 | _,[],_=>by simp [isR,Za5]
 | a,x::r,d=>by rw [XJ,isR,ZhQ x.1 r d,isR,Za5,Xbh]
theorem Zmu {c:List Zo} (h:isR a c=true) (i:Nat):isR a (c.take i)=true:=by
 have:=ZhQ a (c.take i) (c.drop i);rw [X6,h] at this;exact (Xy _ _▸this.symm).1
theorem ZqA {c:List Zo} (h:isR a c=true) (i:Nat):isR (Za5 a (c.take i)) (c.drop i)=true:=by
 have:=ZhQ a (c.take i) (c.drop i);rw [X6,h] at this;exact (Xy _ _▸this.symm).2
theorem ZCn {c:List Zo} (h:isR a c=true) (hi:i<c.length):Za5 a (c.take i)<c[i].1/\c[i].1<=1099511627776/\ZG c[i].2=0:=by
 have:=ZqA h i;rw [Zmt hi,Xy] at this;exact Zgq.1 this.1
theorem Zle:∀{a:Int} {c:List Zo},isR a c=true->a<=Za5 a c
 | _,[],_=>Xa7 _
 | a,x::r,h=>by
   rw [isR,Xy] at h;have h1:=(Zgq.1 h.1).1;have h2:=Zle h.2;rw [Za5];omega
theorem Ztj:∀{a:Int} {c:List Zo},isR a c=true->a<=1099511627776->Za5 a c<=1099511627776
 | _,[],_,h=>h
 | a,x::r,h,_=>by
   rw [isR,Xy] at h;rw [Za5];exact Ztj h.2 (Zgq.1 h.1).2.1
theorem ZqI {x:Zo} (n:Nat) (h:ZG x.2=0):(Zb n++ZZ x.2).length<=67000:=by
 obtain ⟨h4,b⟩:=ZaL.1 h;have b1:=Zc n;have b2:=Zcf x.2;have b3:=Zd6 b;rw [Xd];omega
theorem ZpJ:∀{a:Int} {c:List Zo},isR a c=true->(ZbY a c).length<=67000*c.length
 | _,[],_=>by simp [ZbY]
 | a,x::r,h=>by
   rw [isR,Xy] at h;have h1:=ZqI (x:=x) (x.1 - a - 1).toNat (Zgq.1 h.1).2.2;have h2:=ZpJ h.2;rw [ZbY,Xd,Xh];omega
def ZaG (l:List Zo) (k:Nat):List Zo:=(l.drop (16*k)).take 16
theorem ZpS (l:List Zo) (k:Nat):(ZaG l k).length<=16:=by unfold ZaG;rw [Xi];omega
theorem Zev (l:List Zo):∀{i:Nat},i<=l.length->Za5 0 (l.take i)=ZaK l i
 | 0,_=>rfl
 | i+1,h=>by rw [ZjT 0 (by omega),Zgm (by omega)]
theorem Zh8 (l:List Zo) (i m:Nat):Za5 (Za5 0 (l.take i)) ((l.drop i).take m)=Za5 0 (l.take (i+m)):=by
 have e:∀(a:Int) (c d:List Zo),Za5 a (c++d)=Za5 (Za5 a c) d:=fun a c=>by
  induction c generalizing a with
  | nil=>intro d;rfl
  | cons x r ih=>intro d;exact ih x.1 d
 rw [<- e,List.take_add]
theorem ZjK {l:List Zo} (i:Nat):∀{m:Nat},i+m<=l.length->ZbY (ZaK l i) ((l.drop i).take m)=ZO l i (i+m)
 | 0,_=>by rw [XaJ,ZbY,Xah,Zcp]
 | m+1,h=>by
   have b:m<(l.drop i).length:=by rw [Xj];omega
   rw [ZnB _ b,ZjK i (by omega),show i+(m+1)=(i+m)+1 by omega,Zco (by omega),Zff (by omega),<- Zev l (by omega),Zh8,Zev l (by omega),Xa0]
theorem Zil {l:List Zo} (h:16*k<=l.length):ZaG l k=(l.drop (16*k)).take (Zbt l k - 16*k):=by
 unfold ZaG Zbt
 by_cases b:16*k+16<=l.length
 ·rw [Xao b,show 16*k+16 - 16*k=16 by omega]
 ·rw [Xa3 (by omega),XM (by rw [Xj];omega),XM (by rw [Xj];exact Xc _)]
theorem Zeu {l:List Zo} (h:16*k<=l.length):(ZaG l k).length=Zbt l k - 16*k:=by
 rw [Zil h,Xi,Xj];unfold Zbt;omega
theorem Zkx {l:List Zo} (h:16*k<=l.length):ZbY (ZaK l (16*k)) (ZaG l k)=ZO l (16*k) (Zbt l k):=by
 have h1:16*k<=Zbt l k:=by unfold Zbt;omega
 have h2:Zbt l k<=l.length:=by unfold Zbt;omega
 rw [Zil h,ZjK _ (by omega),show 16*k+(Zbt l k - 16*k)=Zbt l k by omega]
theorem ZnH {l:List Zo} (h:16*k<=l.length):Za5 (ZaK l (16*k)) (ZaG l k)=ZaK l (Zbt l k):=by
 have h1:16*k<=Zbt l k:=by unfold Zbt;omega
 have b:Zbt l k<=l.length:=by unfold Zbt;omega
 rw [Zil h,<- Zev l h,Zh8,show 16*k+(Zbt l k - 16*k)=Zbt l k by omega,Zev l b]
theorem chunk_ok {l:List Zo} (h:isR 0 l=true) (b:16*k<=l.length):isR (ZaK l (16*k)) (ZaG l k)=true:=by
 have:=Zmu (ZqA h (16*k)) 16;rw [Zev l b] at this;exact this
theorem Zug {l:List Zo} (h:ZaH l) (k:Nat):ZaH (ZaG l k):=fun d b=>h d (XaX (Xaq b))
