import Derived.Test.YtdijhifdjbnkfaaGreatZT4
import Derived.Shelf.Unicode.DecodeSlow
set_option maxRecDepth 100000
set_option maxHeartbeats 0
set_option linter.unusedVariables false
set_option linter.unusedSimpArgs false
namespace Go.Proofs.YtdijhifdjbnkfaaGreat
open Lib (hid)
open Tryz
namespace UM
open RowKit
variable {j:Nat} {m:Int}
def Zdo (s:ByteArray) (a:Nat):Bool:=decide (a<s.size/\(s.get! a).toNat / 64=2)
theorem ZAV (s:ByteArray) (p:Int) (a:Nat) (n:Int) (w:World) (k:p=(a:Int)) (h0:a<9000000000000000000) (h:Zdo s a=false) :
  Calls prog 247 #[.string s,.int .i64 p,.int .i64 n] w fun e w'=>e=.returned (.tuple #[.int .i64 0,.bool false])/\w=w':=by
 subst k;unfold Zdo at h
 by_cases c:a<s.size
 ·obtain ⟨x,b⟩:=Xn (s.get! a);have d:s[a]'c=x:=by rw [<- b];exact (Utf8W.get!_of_lt s a c).symm
  have i:((x.toNat:Int) / 64 == 2)=false:=by rw [b] at h;simp at h ⊢;have:=h c;omega
  have f:((x.toNat:Int) / 64 != 2)=true:=by rw [bne,i];rfl
  have hb:(x.toNat:Int)<256:=by have:=x.toNat_lt;omega
  clear h b;go_enter func247,ntmps247;go_wp2;go_ret2;exact ⟨rfl,rfl⟩
 ·have g:s.size<=a:=by omega
  clear h;go_enter func247,ntmps247;go_wp2;go_ret2;exact ⟨rfl,rfl⟩
theorem Zyi (s:ByteArray) (p:Int) (a:Nat) (n:Int) (w:World) (r:p=(a:Int)) (l:0<=n) (g:n<=1000000) (h:Zdo s a=true) :
  Calls prog 247 #[.string s,.int .i64 p,.int .i64 n] w fun e w'=>e=.returned (.tuple #[.int .i64 (n*64+((s.get! a).toNat%64:Nat)),.bool true])/\w=w':=by
 subst r;unfold Zdo at h;obtain ⟨x,c⟩:=Xn (s.get! a);have b:=of_decide_eq_true h;have f:=b.1;have k:s[a]'f=x:=by rw [<- c];exact (Utf8W.get!_of_lt s a f).symm
 rw [c] at b ⊢;have o:((x.toNat:Int) / 64 == 2)=true:=by simp;omega
 have i:((x.toNat:Int) / 64 != 2)=false:=by rw [bne,o];rfl
 have hb:(x.toNat:Int)<256:=by have:=x.toNat_lt;omega
 have d:((x.toNat:Int)%64)=((x.toNat%64:Nat):Int):=by omega
 have q:=hid d;clear h c b d;go_enter func247,ntmps247;go_wp2;go_ret2;rw [q.out];exact ⟨rfl,rfl⟩
def ZdI (s:ByteArray):Nat->Nat->Int->Int×Bool
 | 0,_,n=>(n,true)
 | k+1,a,n=>if Zdo s a then ZdI s k (a+1) (n*64+((s.get! a).toNat%64:Nat)) else (0,false)
theorem ZhU (s:ByteArray) (a:Nat) (n:Int):ZdI s 0 a n=(n,true):=rfl
theorem Zd5 (s:ByteArray) (k a:Nat) (n:Int) (h:Zdo s a=true):ZdI s (k+1) a n=ZdI s k (a+1) (n*64+((s.get! a).toNat%64:Nat)):=by rw [ZdI,Xe h]
theorem Zfk (s:ByteArray) (k a:Nat) (n:Int) (h:Zdo s a=false):ZdI s (k+1) a n=(0,false):=by rw [ZdI,Xa (by simp [h])]
def Zlx (j:Nat) (m:Int):Prop:=0<=m/\((j=0/\m<=31)\/(j=1/\m<=2047)\/(j=2/\m<=131071)\/(j=3/\m<=8388607))
theorem Zlx.lo (h:Zlx j m):0<=m:=h.1
theorem Zlx.hi (h:Zlx j m) (hj:j<3):m<=1000000:=by unfold Zlx at h;omega
theorem Zlx.next (h:Zlx j m) (hj:j<3) (x:Nat):Zlx (j+1) (m*64+(x%64:Nat)):=by unfold Zlx at *;omega
theorem Zpm (s:ByteArray) (a k:Nat) (n z:Int) (w:World) (H:z=(k:Int)+1) (hk:k<=3) (t:0<=n) (C:n<=31) (ha:a<8000000000000000000) :
  Calls prog 220 #[.string s,.int .i64 a,.int .i64 n,.int .i64 z] w fun e w'=>e=.returned (.tuple #[.int .i64 (ZdI s k (a+1) n).1,.bool (ZdI s k (a+1) n).2])/\w=w':=by
 subst H;have D:Zlx 0 n:=⟨t,by omega⟩;clear t C;obtain ⟨x,d⟩:=Xn (ZdI s k (a+1) n);have h:=hid d;rw [d];clear d;go_enter func220,ntmps220;go_wp2
 go_loop [2,10] (fun u i=>∃(j:Nat) (m:Int),j<=k/\i=.int .i64 ((j:Int)+1)/\u=.int .i64 m/\Zlx j m/\Hid (ZdI s (k - j) (a+1+j) m=x)) (fun _ i=>k+1 - (intOf i).toNat)
 case atStart=>exact ⟨0,n,by omega,rfl,rfl,D,by have:=h.out;exact this⟩
 case round =>
  obtain ⟨j,m,hj,rfl,rfl,A,r⟩:=hrel;clear h D;have v:=A.lo
  by_cases G:j<k
  ·have y:=A.hi (by omega);obtain ⟨q,o⟩:∃q,k - j=q+1:=⟨k - j - 1,by omega⟩;have c:=r.out;rw [o] at c
   by_cases g:Zdo s (a+1+j)=true
   ·rw [Zd5 _ _ _ _ g] at c;have p:=A.next (by omega) (s.get! (a+1+j)).toNat;obtain ⟨F,l⟩:=Xn (m*64+(((s.get! (a+1+j)).toNat%64:Nat):Int));have b:=fun W=>Zyi s ((a:Int)+((j:Int)+1)) (a+1+j) m W (by omega) v y g;rw [l] at c p;simp only [l] at b;clear l;have f:=hid c;have E:=hid o;have B:=hid b;clear c r g o b;go_wp2_with fail;refine (B.out _).mono ?_;rintro e w' ⟨rfl,rfl⟩;go_wp2
    go_round
    case rel=>exact ⟨j+1,F,by omega,by go_num,rfl,p,by have h1:=E.out;have I:=f.out;rw [show k - (j+1)=q by omega,show a+1+(j+1)=a+1+j+1 by omega];exact I⟩
    case measure=>simp [intOf];omega
   ·have g:Zdo s (a+1+j)=false:=by simpa using g
    rw [Zfk _ _ _ _ g] at c;have b:=fun W=>ZAV s ((a:Int)+((j:Int)+1)) (a+1+j) m W (by omega) (by omega) g;have f:=hid c;have E:=hid o;have B:=hid b;clear c r g o b;go_wp2_with fail;refine (B.out _).mono ?_;rintro e w' ⟨rfl,rfl⟩;go_wp2;go_ret2;rw [<- f.out];exact ⟨rfl,rfl⟩
  ·obtain rfl:j=k:=by omega
   have c:=r.out;rw [Xas,ZhU] at c;have f:=hid c;clear c r;go_wp2;go_ret2;rw [<- f.out];exact ⟨rfl,rfl⟩
theorem Zbj (s:ByteArray) (a:Nat):Zdo s a=true↔a<s.size/\(s.get! a).toNat / 64=2:=by unfold Zdo;exact decide_eq_true_iff
theorem Zfl (s:ByteArray):∀(k a:Nat) (n:Int),0<=n->0<=(ZdI s k a n).1
 | 0,a,n,h=>h
 | k+1,a,n,h=>by
   by_cases c:Zdo s a=true
   ·rw [Zd5 _ _ _ _ c];exact Zfl s k _ _ (by omega)
   ·rw [Zfk _ _ _ _ (by simpa using c)];exact Xa7 0
theorem ZCb (V:Nat) (hV:V<=65535):(if V>=2048/\(V<55296\/(57344<=V/\V<=1114111)) then (V,3) else (65533,1))=if true=true/\2048<=(V:Int)/\((V:Int)<55296\/57343<(V:Int)) then ((V:Int).toNat,3) else (65533,1):=by
 by_cases h:V>=2048/\(V<55296\/(57344<=V/\V<=1114111))
 ·rw [Xe h,Xe ⟨rfl,by omega,by omega⟩];rfl
 ·rw [Xa h,Xa (fun q=>h ⟨by have:=q.2.1;omega,by have:=q.2.2;omega⟩)]
theorem ZCc (V:Nat):(if V>=65536/\(V<55296\/(57344<=V/\V<=1114111)) then (V,4) else (65533,1))=if true=true/\65536<=(V:Int)/\(V:Int)<=1114111 then ((V:Int).toNat,4) else (65533,1):=by
 by_cases h:V>=65536/\(V<55296\/(57344<=V/\V<=1114111))
 ·rw [Xe h,Xe ⟨rfl,by omega,by omega⟩];rfl
 ·rw [Xa h,Xa (fun q=>h ⟨by have:=q.2.1;omega,by have:=q.2.1;have:=q.2.2;omega⟩)]
theorem ZCZ (s:ByteArray) (a:Nat) (h:(s.get! a).toNat<128):Utf8.decode s a=((s.get! a).toNat,1):=by
 rw [Lib.decode_at,Lib.decodeN,Xe h]
theorem ZC0 (s:ByteArray) (a:Nat) (hl:a<s.size) (h:(s.get! a).toNat / 32=6) :
  Utf8.decode s a=if (ZdI s 1 (a+1) ((s.get! a).toNat%32:Nat)).2=true/\128<=(ZdI s 1 (a+1) ((s.get! a).toNat%32:Nat)).1 then ((ZdI s 1 (a+1) ((s.get! a).toNat%32:Nat)).1.toNat,2) else (65533,1):=by
 rw [Lib.decode_at,Lib.decodeN,Xa (by omega)]
 by_cases c1:Zdo s (a+1)=true
 ·have b:=(Zbj _ _).1 c1;rw [Zd5 _ _ _ _ c1,ZhU,Xe ⟨h,by omega,b.2⟩];dsimp only
  split
  ·rw [Xe ⟨rfl,by omega⟩];rfl
  ·rw [Xa (fun q=>by omega)]
 ·have b:¬(a+1<s.size/\(s.get! (a+1)).toNat / 64=2):=fun q=>c1 ((Zbj _ _).2 q);rw [Zfk _ _ _ _ (by simpa using c1),Xa (by omega),Xa (by omega),Xa (by omega),Xa (by simp)]
theorem ZC1 (s:ByteArray) (a:Nat) (hl:a<s.size) (h:(s.get! a).toNat / 16=14) :
  Utf8.decode s a=if (ZdI s 2 (a+1) ((s.get! a).toNat%16:Nat)).2=true/\2048<=(ZdI s 2 (a+1) ((s.get! a).toNat%16:Nat)).1/\((ZdI s 2 (a+1) ((s.get! a).toNat%16:Nat)).1<55296\/57343<(ZdI s 2 (a+1) ((s.get! a).toNat%16:Nat)).1) then ((ZdI s 2 (a+1) ((s.get! a).toNat%16:Nat)).1.toNat,3) else (65533,1):=by
 rw [Lib.decode_at,Lib.decodeN,Xa (by omega),Xa (by omega)]
 by_cases c1:Zdo s (a+1)=true
 ·have d:=(Zbj _ _).1 c1;rw [Zd5 _ _ _ _ c1]
  by_cases c2:Zdo s (a+1+1)=true
  ·have e:=(Zbj _ _).1 c2;rw [Zd5 _ _ _ _ c2,ZhU,Xe ⟨h,⟨by omega,d.2⟩,by omega,e.2⟩];rw [show a+1+1=a+2 by omega];have f:((((s.get! a).toNat%16:Nat):Int)*64+(((s.get! (a+1)).toNat%64:Nat):Int))*64+(((s.get! (a+2)).toNat%64:Nat):Int)=(((s.get! a).toNat%16*4096+(s.get! (a+1)).toNat%64*64+(s.get! (a+2)).toNat%64:Nat):Int):=by omega
   rw [f];obtain ⟨V,b,c⟩:∃V,(s.get! a).toNat%16*4096+(s.get! (a+1)).toNat%64*64+(s.get! (a+2)).toNat%64=V/\V<=65535:=⟨_,rfl,by omega⟩;rw [b];exact ZCb V c
  ·have e:¬(a+2<s.size/\(s.get! (a+2)).toNat / 64=2):=fun q=>c2 ((Zbj _ _).2 q);rw [Zfk _ _ _ _ (by simpa using c2),Xa (by omega),Xa (by omega),Xa (by simp)]
 ·have d:¬(a+1<s.size/\(s.get! (a+1)).toNat / 64=2):=fun q=>c1 ((Zbj _ _).2 q);rw [Zfk _ _ _ _ (by simpa using c1),Xa (by omega),Xa (by omega),Xa (by simp)]
theorem ZC2 (s:ByteArray) (a:Nat) (hl:a<s.size) (h:(s.get! a).toNat / 8=30) :
  Utf8.decode s a=if (ZdI s 3 (a+1) ((s.get! a).toNat%8:Nat)).2=true/\65536<=(ZdI s 3 (a+1) ((s.get! a).toNat%8:Nat)).1/\(ZdI s 3 (a+1) ((s.get! a).toNat%8:Nat)).1<=1114111 then ((ZdI s 3 (a+1) ((s.get! a).toNat%8:Nat)).1.toNat,4) else (65533,1):=by
 rw [Lib.decode_at,Lib.decodeN,Xa (by omega),Xa (by omega),Xa (by omega)]
 by_cases c1:Zdo s (a+1)=true
 ·have c:=(Zbj _ _).1 c1;rw [Zd5 _ _ _ _ c1]
  by_cases c2:Zdo s (a+1+1)=true
  ·have d:=(Zbj _ _).1 c2;rw [Zd5 _ _ _ _ c2]
   by_cases c3:Zdo s (a+1+1+1)=true
   ·have e:=(Zbj _ _).1 c3;rw [Zd5 _ _ _ _ c3,ZhU,Xe ⟨h,⟨by omega,c.2⟩,⟨by omega,d.2⟩,by omega,e.2⟩];rw [show a+1+1+1=a+3 by omega,show a+1+1=a+2 by omega];have f:(((((s.get! a).toNat%8:Nat):Int)*64+(((s.get! (a+1)).toNat%64:Nat):Int))*64+(((s.get! (a+2)).toNat%64:Nat):Int))*64+(((s.get! (a+3)).toNat%64:Nat):Int)=(((s.get! a).toNat%8*262144+(s.get! (a+1)).toNat%64*4096+(s.get! (a+2)).toNat%64*64+(s.get! (a+3)).toNat%64:Nat):Int):=by omega
    rw [f];obtain ⟨V,b⟩:=Xn ((s.get! a).toNat%8*262144+(s.get! (a+1)).toNat%64*4096+(s.get! (a+2)).toNat%64*64+(s.get! (a+3)).toNat%64);rw [b];exact ZCc V
   ·have e:¬(a+3<s.size/\(s.get! (a+3)).toNat / 64=2):=fun q=>c3 ((Zbj _ _).2 q);rw [Zfk _ _ _ _ (by simpa using c3),Xa (by omega),Xa (by simp)]
  ·have d:¬(a+2<s.size/\(s.get! (a+2)).toNat / 64=2):=fun q=>c2 ((Zbj _ _).2 q);rw [Zfk _ _ _ _ (by simpa using c2),Xa (by omega),Xa (by simp)]
 ·have c:¬(a+1<s.size/\(s.get! (a+1)).toNat / 64=2):=fun q=>c1 ((Zbj _ _).2 q);rw [Zfk _ _ _ _ (by simpa using c1),Xa (by omega),Xa (by simp)]
theorem ZCY (s:ByteArray) (a:Nat) (b:¬(s.get! a).toNat<128) (h2:¬(s.get! a).toNat / 32=6) (h3:¬(s.get! a).toNat / 16=14) (h4:¬(s.get! a).toNat / 8=30):Utf8.decode s a=(65533,1):=by
 rw [Lib.decode_at,Lib.decodeN,Xa b,Xa (by omega),Xa (by omega),Xa (by omega)]
theorem Zjs {a b c d:Int} (h:a=b) (k:c=d):Ending.returned (.tuple #[.int .i64 a,.int .i64 c])=.returned (.tuple #[.int .i64 b,.int .i64 d]):=by rw [h,k]
theorem ZCS (s:ByteArray) (p:Int) (w:World) (a:p<0\/s.size<=p) :
  Calls prog 178 #[.string s,.int .i64 p] w fun e w'=>e=.returned (.tuple #[.int .i64 0,.int .i64 0])/\w=w':=by
 rcases a with a|a
 ·go_enter func178,ntmps178;go_wp2;go_ret2;exact ⟨rfl,rfl⟩
 ·have h0:¬p<0:=by omega
  go_enter func178,ntmps178;go_wp2;go_ret2;exact ⟨rfl,rfl⟩
theorem ZBn (s:ByteArray) (a:Nat) (w:World) (hs:s.size<=4000000000000000000) (i:a<s.size) :
  Calls prog 178 #[.string s,.int .i64 a] w fun e w'=>e=.returned (.tuple #[.int .i64 (Utf8.decode s a).1,.int .i64 (Utf8.decode s a).2])/\w=w':=by
 have f:=ZCZ s a;have c:=ZC0 s a i;have d:=ZC1 s a i;have b:=ZC2 s a i;have g:=ZCY s a;have k:=fun W=>Zpm s a 1 ((s.get! a).toNat%32:Nat) 2 W (by omega) (by omega) (by omega) (by omega) (by omega);have m:=fun W=>Zpm s a 2 ((s.get! a).toNat%16:Nat) 3 W (by omega) (by omega) (by omega) (by omega) (by omega);have l:=fun W=>Zpm s a 3 ((s.get! a).toNat%8:Nat) 4 W (by omega) (by omega) (by omega) (by omega) (by omega);have F:=Zfl s 1 (a+1) ((s.get! a).toNat%32:Nat) (by omega);have z:=Zfl s 2 (a+1) ((s.get! a).toNat%16:Nat) (by omega);have C:=Zfl s 3 (a+1) ((s.get! a).toNat%8:Nat) (by omega);obtain ⟨x,q⟩:=Xn (s.get! a);have V:s[a]'i=x:=by rw [<- q];exact (Utf8W.get!_of_lt s a i).symm
 rw [q] at f c d b g F z C;simp only [q] at k m l;clear q;have hb:(x.toNat:Int)<256:=by have:=x.toNat_lt;omega
 have S:((x.toNat:Int)%32)=((x.toNat%32:Nat):Int):=by omega
 have N:((x.toNat:Int)%16)=((x.toNat%16:Nat):Int):=by omega
 have R:((x.toNat:Int)%8)=((x.toNat%8:Nat):Int):=by omega
 obtain ⟨⟨T,L⟩,A⟩:∃r,ZdI s 1 (a+1) ((x.toNat%32:Nat):Int)=r:=⟨_,rfl⟩;obtain ⟨⟨v3,O⟩,J⟩:∃r,ZdI s 2 (a+1) ((x.toNat%16:Nat):Int)=r:=⟨_,rfl⟩;obtain ⟨⟨v4,U⟩,G⟩:∃r,ZdI s 3 (a+1) ((x.toNat%8:Nat):Int)=r:=⟨_,rfl⟩;rw [A] at c F;rw [J] at d z;rw [G] at b C;simp only [A] at k;simp only [<- S] at k;simp only [J] at m;simp only [<- N] at m;simp only [G] at l;simp only [<- R] at l;clear A J G S N R;dsimp only at c d b F z C;obtain ⟨D,M⟩:=Xn (Utf8.decode s a);rw [M] at g f c d b ⊢;clear M;have B:=hid k;have h:=hid m;have p:=hid l;clear k m l
 by_cases c1:x.toNat<128
 ·obtain rfl:=f c1;have y:(x.toNat:Int)<128:=by omega
  clear g f c d b;go_enter func178,ntmps178;go_wp2;go_ret2;exact ⟨rfl,rfl⟩
 ·have y:¬(x.toNat:Int)<128:=by omega
  by_cases c2:x.toNat / 32=6
  ·have I:((x.toNat:Int) / 32 == 6)=true:=by simp;omega
   have H:((x.toNat:Int) / 16 == 14)=false:=by simp;omega
   have E:((x.toNat:Int) / 8 == 30)=false:=by simp;omega
   have o:=c c2;clear g f c d b c1 c2
   by_cases t:L=true/\128<=T
   ·rw [Xe t] at o;obtain ⟨rfl,j⟩:=t;subst o;go_enter func178,ntmps178;go_wp2_with fail;refine (B.out _).mono ?_;rintro e w' ⟨rfl,rfl⟩;go_wp2;go_ret2;exact ⟨Zjs (by omega) rfl,rfl⟩
   ·rw [Xa t] at o;subst o;cases L
    ·clear t;go_enter func178,ntmps178;go_wp2_with fail;refine (B.out _).mono ?_;rintro e w' ⟨rfl,rfl⟩;go_wp2;go_ret2;exact ⟨rfl,rfl⟩
    ·have j:T<128:=by simp at t;omega
     clear t;go_enter func178,ntmps178;go_wp2_with fail;refine (B.out _).mono ?_;rintro e w' ⟨rfl,rfl⟩;go_wp2;go_ret2;exact ⟨rfl,rfl⟩
  ·by_cases c3:x.toNat / 16=14
   ·have I:((x.toNat:Int) / 32 == 6)=false:=by simp;omega
    have H:((x.toNat:Int) / 16 == 14)=true:=by simp;omega
    have E:((x.toNat:Int) / 8 == 30)=false:=by simp;omega
    have n:=d c3;clear g f c d b c1 c2 c3
    by_cases t:O=true/\2048<=v3/\(v3<55296\/57343<v3)
    ·rw [Xe t] at n;obtain ⟨rfl,j,t3⟩:=t;subst n
     by_cases t4:v3<55296
     ·clear t3;go_enter func178,ntmps178;go_wp2_with fail;refine (h.out _).mono ?_;rintro e w' ⟨rfl,rfl⟩;go_wp2;go_ret2;exact ⟨Zjs (by omega) rfl,rfl⟩
     ·have t5:57343<v3:=by omega
      clear t3;go_enter func178,ntmps178;go_wp2_with fail;refine (h.out _).mono ?_;rintro e w' ⟨rfl,rfl⟩;go_wp2;go_ret2;exact ⟨Zjs (by omega) rfl,rfl⟩
    ·rw [Xa t] at n;subst n;cases O
     ·clear t;go_enter func178,ntmps178;go_wp2_with fail;refine (h.out _).mono ?_;rintro e w' ⟨rfl,rfl⟩;go_wp2;go_ret2;exact ⟨rfl,rfl⟩
     ·by_cases j:v3<2048
      ·clear t;go_enter func178,ntmps178;go_wp2_with fail;refine (h.out _).mono ?_;rintro e w' ⟨rfl,rfl⟩;go_wp2;go_ret2;exact ⟨rfl,rfl⟩
      ·have t3:¬v3<55296:=by simp at t;omega
       have t4:¬ 57343<v3:=by simp at t;omega
       clear t;go_enter func178,ntmps178;go_wp2_with fail;refine (h.out _).mono ?_;rintro e w' ⟨rfl,rfl⟩;go_wp2;go_ret2;exact ⟨rfl,rfl⟩
   ·by_cases v:x.toNat / 8=30
    ·have I:((x.toNat:Int) / 32 == 6)=false:=by simp;omega
     have H:((x.toNat:Int) / 16 == 14)=false:=by simp;omega
     have E:((x.toNat:Int) / 8 == 30)=true:=by simp;omega
     have u:=b v;clear g f c d b c1 c2 c3 v
     by_cases t:U=true/\65536<=v4/\v4<=1114111
     ·rw [Xe t] at u;obtain ⟨rfl,j,t3⟩:=t;subst u;go_enter func178,ntmps178;go_wp2_with fail;refine (p.out _).mono ?_;rintro e w' ⟨rfl,rfl⟩;go_wp2;go_ret2;exact ⟨Zjs (by omega) rfl,rfl⟩
     ·rw [Xa t] at u;subst u;cases U
      ·clear t;go_enter func178,ntmps178;go_wp2_with fail;refine (p.out _).mono ?_;rintro e w' ⟨rfl,rfl⟩;go_wp2;go_ret2;exact ⟨rfl,rfl⟩
      ·by_cases j:v4<65536
       ·clear t;go_enter func178,ntmps178;go_wp2_with fail;refine (p.out _).mono ?_;rintro e w' ⟨rfl,rfl⟩;go_wp2;go_ret2;exact ⟨rfl,rfl⟩
       ·have t3:¬v4<=1114111:=by simp at t;omega
        clear t;go_enter func178,ntmps178;go_wp2_with fail;refine (p.out _).mono ?_;rintro e w' ⟨rfl,rfl⟩;go_wp2;go_ret2;exact ⟨rfl,rfl⟩
    ·have I:((x.toNat:Int) / 32 == 6)=false:=by simp;omega
     have H:((x.toNat:Int) / 16 == 14)=false:=by simp;omega
     have E:((x.toNat:Int) / 8 == 30)=false:=by simp;omega
     obtain rfl:=g c1 c2 c3 v;clear f c d b g c1 c2 c3 v;go_enter func178,ntmps178;go_wp2;go_ret2;exact ⟨rfl,rfl⟩
