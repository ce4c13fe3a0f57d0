import Derived.Test.YtmomfobdpfajbaaGreatZA4
import Derived.Shelf.Unicode.DecodeSlow
set_option maxRecDepth 100000
set_option maxHeartbeats 0
set_option linter.unusedVariables false
set_option linter.unusedSimpArgs false
namespace Go.Proofs.YtmomfobdpfajbaaGreat
open Tryz
namespace UM
open RowKit
variable {j:Nat} {m:Int}
def Zdn (s:ByteArray) (a:Nat):Bool:=decide (a<s.size/\(s.get! a).toNat / 64=2)
theorem ZBi (s:ByteArray) (p:Int) (a:Nat) (n:Int) (w:World) (g:p=(a:Int)) (h0:a<9000000000000000000) (h:Zdn s a=false) :
  Calls prog 247 #[.string s,.int .i64 p,.int .i64 n] w fun e w'=>e=.returned (.tuple #[.int .i64 0,.bool false])/\w=w':=by
 subst g;unfold Zdn at h
 by_cases b:a<s.size
 ·obtain ⟨x,c⟩:=Xn (s.get! a);have d:s[a]'b=x:=by rw [<- c];exact (Utf8W.get!_of_lt s a b).symm
  have f:((x.toNat:Int) / 64 == 2)=false:=by rw [c] at h;simp at h ⊢;have:=h b;omega
  have k:((x.toNat:Int) / 64 != 2)=true:=by rw [bne,f];rfl
  have hb:(x.toNat:Int)<256:=by have:=x.toNat_lt;omega
  clear h c;go_enter func247,ntmps247;go_wp2;go_ret2;exact ⟨rfl,rfl⟩
 ·have i:s.size<=a:=by omega
  clear h;go_enter func247,ntmps247;go_wp2;go_ret2;exact ⟨rfl,rfl⟩
theorem ZyL (s:ByteArray) (p:Int) (a:Nat) (n:Int) (w:World) (o:p=(a:Int)) (q:0<=n) (i:n<=1000000) (h:Zdn s a=true) :
  Calls prog 247 #[.string s,.int .i64 p,.int .i64 n] w fun e w'=>e=.returned (.tuple #[.int .i64 (n*64+((s.get! a).toNat%64:Nat)),.bool true])/\w=w':=by
 subst o;unfold Zdn at h;obtain ⟨x,c⟩:=Xn (s.get! a);have b:=of_decide_eq_true h;have d:=b.1;have k:s[a]'d=x:=by rw [<- c];exact (Utf8W.get!_of_lt s a d).symm
 rw [c] at b ⊢;have l:((x.toNat:Int) / 64 == 2)=true:=by simp;omega
 have r:((x.toNat:Int) / 64 != 2)=false:=by rw [bne,l];rfl
 have hb:(x.toNat:Int)<256:=by have:=x.toNat_lt;omega
 have f:((x.toNat:Int)%64)=((x.toNat%64:Nat):Int):=by omega
 have g:=Y4 f;clear h c b f;go_enter func247,ntmps247;go_wp2;go_ret2;rw [g.z];exact ⟨rfl,rfl⟩
def ZdI (s:ByteArray):Nat->Nat->Int->Int×Bool
 | 0,_,n=>(n,true)
 | k+1,a,n=>if Zdn s a then ZdI s k (a+1) (n*64+((s.get! a).toNat%64:Nat)) else (0,false)
theorem ZhT (s:ByteArray) (a:Nat) (n:Int):ZdI s 0 a n=(n,true):=rfl
theorem Zd2 (s:ByteArray) (k a:Nat) (n:Int) (h:Zdn s a=true):ZdI s (k+1) a n=ZdI s k (a+1) (n*64+((s.get! a).toNat%64:Nat)):=by rw [ZdI,Xe h]
theorem Zfh (s:ByteArray) (k a:Nat) (n:Int) (h:Zdn s a=false):ZdI s (k+1) a n=(0,false):=by rw [ZdI,Xc (by simp [h])]
def Zlw (j:Nat) (m:Int):Prop:=0<=m/\((j=0/\m<=31)\/(j=1/\m<=2047)\/(j=2/\m<=131071)\/(j=3/\m<=8388607))
theorem Zlw.lo (h:Zlw j m):0<=m:=h.1
theorem Zlw.hi (h:Zlw j m) (hj:j<3):m<=1000000:=by unfold Zlw at h;omega
theorem Zlw.next (h:Zlw j m) (hj:j<3) (x:Nat):Zlw (j+1) (m*64+(x%64:Nat)):=by unfold Zlw at *;omega
theorem ZpA (s:ByteArray) (a k:Nat) (n z:Int) (w:World) (F:z=(k:Int)+1) (hk:k<=3) (t:0<=n) (v:n<=31) (ha:a<8000000000000000000) :
  Calls prog 220 #[.string s,.int .i64 a,.int .i64 n,.int .i64 z] w fun e w'=>e=.returned (.tuple #[.int .i64 (ZdI s k (a+1) n).1,.bool (ZdI s k (a+1) n).2])/\w=w':=by
 subst F;have E:Zlw 0 n:=⟨t,by omega⟩;clear t v;obtain ⟨C,d⟩:=Xn (ZdI s k (a+1) n);have h:=Y4 d;rw [d];clear d;go_enter func220,ntmps220;go_wp2
 go_loop [2,10] (fun u i=>∃(j:Nat) (m:Int),j<=k/\i=.int .i64 ((j:Int)+1)/\u=.int .i64 m/\Zlw j m/\Y5 (ZdI s (k - j) (a+1+j) m=C)) (fun _ i=>k+1 - (intOf i).toNat)
 case atStart=>exact ⟨0,n,by omega,rfl,rfl,E,by have:=h.z;exact this⟩
 case round =>
  obtain ⟨j,m,hj,rfl,rfl,B,r⟩:=hrel;clear h E;have A:=B.lo
  by_cases G:j<k
  ·have y:=B.hi (by omega);obtain ⟨q,o⟩:∃q,k - j=q+1:=⟨k - j - 1,by omega⟩;have c:=r.z;rw [o] at c
   by_cases g:Zdn s (a+1+j)=true
   ·rw [Zd2 _ _ _ _ g] at c;have p:=B.next (by omega) (s.get! (a+1+j)).toNat;obtain ⟨H,l⟩:=Xn (m*64+(((s.get! (a+1+j)).toNat%64:Nat):Int));have b:=fun W=>ZyL s ((a:Int)+((j:Int)+1)) (a+1+j) m W (by omega) A y g;rw [l] at c p;simp only [l] at b;clear l;have f:=Y4 c;have D:=Y4 o;have x:=Y4 b;clear c r g o b;go_wp2_with fail;refine (x.z _).mono ?_;rintro e w' ⟨rfl,rfl⟩;go_wp2
    go_round
    case rel=>exact ⟨j+1,H,by omega,by go_num,rfl,p,by have h1:=D.z;have I:=f.z;rw [show k - (j+1)=q by omega,show a+1+(j+1)=a+1+j+1 by omega];exact I⟩
    case measure=>simp [intOf];omega
   ·have g:Zdn s (a+1+j)=false:=by simpa using g
    rw [Zfh _ _ _ _ g] at c;have b:=fun W=>ZBi s ((a:Int)+((j:Int)+1)) (a+1+j) m W (by omega) (by omega) g;have f:=Y4 c;have D:=Y4 o;have x:=Y4 b;clear c r g o b;go_wp2_with fail;refine (x.z _).mono ?_;rintro e w' ⟨rfl,rfl⟩;go_wp2;go_ret2;rw [<- f.z];exact ⟨rfl,rfl⟩
  ·obtain rfl:j=k:=by omega
   have c:=r.z;rw [Xaw,ZhT] at c;have f:=Y4 c;clear c r;go_wp2;go_ret2;rw [<- f.z];exact ⟨rfl,rfl⟩
end UM
namespace UM
open RowKit
theorem Zbm (s:ByteArray) (a:Nat):Zdn s a=true↔a<s.size/\(s.get! a).toNat / 64=2:=by unfold Zdn;exact decide_eq_true_iff
theorem Zfi (s:ByteArray):∀(k a:Nat) (n:Int),0<=n->0<=(ZdI s k a n).1
 | 0,a,n,h=>h
 | k+1,a,n,h=>by
   by_cases c:Zdn s a=true
   ·rw [Zd2 _ _ _ _ c];exact Zfi s k _ _ (by omega)
   ·rw [Zfh _ _ _ _ (by simpa using c)];exact Xa7 0
theorem ZCt (V:Nat) (hV:V<=65535):(if V>=2048/\(V<55296\/(57344<=V/\V<=1114111)) then (V,3) else (65533,1))=if true=true/\2048<=(V:Int)/\((V:Int)<55296\/57343<(V:Int)) then ((V:Int).toNat,3) else (65533,1):=by
 by_cases h:V>=2048/\(V<55296\/(57344<=V/\V<=1114111))
 ·rw [Xe h,Xe ⟨rfl,by omega,by omega⟩];rfl
 ·rw [Xc h,Xc (fun q=>h ⟨by have:=q.2.1;omega,by have:=q.2.2;omega⟩)]
theorem ZCu (V:Nat):(if V>=65536/\(V<55296\/(57344<=V/\V<=1114111)) then (V,4) else (65533,1))=if true=true/\65536<=(V:Int)/\(V:Int)<=1114111 then ((V:Int).toNat,4) else (65533,1):=by
 by_cases h:V>=65536/\(V<55296\/(57344<=V/\V<=1114111))
 ·rw [Xe h,Xe ⟨rfl,by omega,by omega⟩];rfl
 ·rw [Xc h,Xc (fun q=>h ⟨by have:=q.2.1;omega,by have:=q.2.1;have:=q.2.2;omega⟩)]
theorem ZDe (s:ByteArray) (a:Nat) (h:(s.get! a).toNat<128):Utf8.decode s a=((s.get! a).toNat,1):=by
 rw [Lib.decode_at,Lib.decodeN,Xe h]
theorem ZDf (s:ByteArray) (a:Nat) (hl:a<s.size) (h:(s.get! a).toNat / 32=6) :
  Utf8.decode s a=if (ZdI s 1 (a+1) ((s.get! a).toNat%32:Nat)).2=true/\128<=(ZdI s 1 (a+1) ((s.get! a).toNat%32:Nat)).1 then ((ZdI s 1 (a+1) ((s.get! a).toNat%32:Nat)).1.toNat,2) else (65533,1):=by
 rw [Lib.decode_at,Lib.decodeN,Xc (by omega)]
 by_cases c1:Zdn s (a+1)=true
 ·have b:=(Zbm _ _).1 c1;rw [Zd2 _ _ _ _ c1,ZhT,Xe ⟨h,by omega,b.2⟩];dsimp only
  split
  ·rw [Xe ⟨rfl,by omega⟩];rfl
  ·rw [Xc (fun q=>by omega)]
 ·have b:¬(a+1<s.size/\(s.get! (a+1)).toNat / 64=2):=fun q=>c1 ((Zbm _ _).2 q);rw [Zfh _ _ _ _ (by simpa using c1),Xc (by omega),Xc (by omega),Xc (by omega),Xc (by simp)]
theorem ZDg (s:ByteArray) (a:Nat) (hl:a<s.size) (h:(s.get! a).toNat / 16=14) :
  Utf8.decode s a=if (ZdI s 2 (a+1) ((s.get! a).toNat%16:Nat)).2=true/\2048<=(ZdI s 2 (a+1) ((s.get! a).toNat%16:Nat)).1/\((ZdI s 2 (a+1) ((s.get! a).toNat%16:Nat)).1<55296\/57343<(ZdI s 2 (a+1) ((s.get! a).toNat%16:Nat)).1) then ((ZdI s 2 (a+1) ((s.get! a).toNat%16:Nat)).1.toNat,3) else (65533,1):=by
 rw [Lib.decode_at,Lib.decodeN,Xc (by omega),Xc (by omega)]
 by_cases c1:Zdn s (a+1)=true
 ·have d:=(Zbm _ _).1 c1;rw [Zd2 _ _ _ _ c1]
  by_cases c2:Zdn s (a+1+1)=true
  ·have e:=(Zbm _ _).1 c2;rw [Zd2 _ _ _ _ c2,ZhT,Xe ⟨h,⟨by omega,d.2⟩,by omega,e.2⟩];rw [show a+1+1=a+2 by omega];have f:((((s.get! a).toNat%16:Nat):Int)*64+(((s.get! (a+1)).toNat%64:Nat):Int))*64+(((s.get! (a+2)).toNat%64:Nat):Int)=(((s.get! a).toNat%16*4096+(s.get! (a+1)).toNat%64*64+(s.get! (a+2)).toNat%64:Nat):Int):=by omega
   rw [f];obtain ⟨V,c,b⟩:∃V,(s.get! a).toNat%16*4096+(s.get! (a+1)).toNat%64*64+(s.get! (a+2)).toNat%64=V/\V<=65535:=⟨_,rfl,by omega⟩;rw [c];exact ZCt V b
  ·have e:¬(a+2<s.size/\(s.get! (a+2)).toNat / 64=2):=fun q=>c2 ((Zbm _ _).2 q);rw [Zfh _ _ _ _ (by simpa using c2),Xc (by omega),Xc (by omega),Xc (by simp)]
 ·have d:¬(a+1<s.size/\(s.get! (a+1)).toNat / 64=2):=fun q=>c1 ((Zbm _ _).2 q);rw [Zfh _ _ _ _ (by simpa using c1),Xc (by omega),Xc (by omega),Xc (by simp)]
theorem ZDh (s:ByteArray) (a:Nat) (hl:a<s.size) (h:(s.get! a).toNat / 8=30) :
  Utf8.decode s a=if (ZdI s 3 (a+1) ((s.get! a).toNat%8:Nat)).2=true/\65536<=(ZdI s 3 (a+1) ((s.get! a).toNat%8:Nat)).1/\(ZdI s 3 (a+1) ((s.get! a).toNat%8:Nat)).1<=1114111 then ((ZdI s 3 (a+1) ((s.get! a).toNat%8:Nat)).1.toNat,4) else (65533,1):=by
 rw [Lib.decode_at,Lib.decodeN,Xc (by omega),Xc (by omega),Xc (by omega)]
 by_cases c1:Zdn s (a+1)=true
 ·have d:=(Zbm _ _).1 c1;rw [Zd2 _ _ _ _ c1]
  by_cases c2:Zdn s (a+1+1)=true
  ·have e:=(Zbm _ _).1 c2;rw [Zd2 _ _ _ _ c2]
   by_cases c3:Zdn s (a+1+1+1)=true
   ·have c:=(Zbm _ _).1 c3;rw [Zd2 _ _ _ _ c3,ZhT,Xe ⟨h,⟨by omega,d.2⟩,⟨by omega,e.2⟩,by omega,c.2⟩];rw [show a+1+1+1=a+3 by omega,show a+1+1=a+2 by omega];have f:(((((s.get! a).toNat%8:Nat):Int)*64+(((s.get! (a+1)).toNat%64:Nat):Int))*64+(((s.get! (a+2)).toNat%64:Nat):Int))*64+(((s.get! (a+3)).toNat%64:Nat):Int)=(((s.get! a).toNat%8*262144+(s.get! (a+1)).toNat%64*4096+(s.get! (a+2)).toNat%64*64+(s.get! (a+3)).toNat%64:Nat):Int):=by omega
    rw [f];obtain ⟨V,b⟩:=Xn ((s.get! a).toNat%8*262144+(s.get! (a+1)).toNat%64*4096+(s.get! (a+2)).toNat%64*64+(s.get! (a+3)).toNat%64);rw [b];exact ZCu V
   ·have c:¬(a+3<s.size/\(s.get! (a+3)).toNat / 64=2):=fun q=>c3 ((Zbm _ _).2 q);rw [Zfh _ _ _ _ (by simpa using c3),Xc (by omega),Xc (by simp)]
  ·have e:¬(a+2<s.size/\(s.get! (a+2)).toNat / 64=2):=fun q=>c2 ((Zbm _ _).2 q);rw [Zfh _ _ _ _ (by simpa using c2),Xc (by omega),Xc (by simp)]
 ·have d:¬(a+1<s.size/\(s.get! (a+1)).toNat / 64=2):=fun q=>c1 ((Zbm _ _).2 q);rw [Zfh _ _ _ _ (by simpa using c1),Xc (by omega),Xc (by simp)]
theorem ZDd (s:ByteArray) (a:Nat) (b:¬(s.get! a).toNat<128) (h2:¬(s.get! a).toNat / 32=6) (h3:¬(s.get! a).toNat / 16=14) (h4:¬(s.get! a).toNat / 8=30):Utf8.decode s a=(65533,1):=by
 rw [Lib.decode_at,Lib.decodeN,Xc b,Xc (by omega),Xc (by omega),Xc (by omega)]
theorem Zjx {a b c d:Int} (h:a=b) (k:c=d):Ending.returned (.tuple #[.int .i64 a,.int .i64 c])=.returned (.tuple #[.int .i64 b,.int .i64 d]):=by rw [h,k]
theorem ZC6 (s:ByteArray) (p:Int) (w:World) (a:p<0\/s.size<=p) :
  Calls prog 178 #[.string s,.int .i64 p] w fun e w'=>e=.returned (.tuple #[.int .i64 0,.int .i64 0])/\w=w':=by
 rcases a with a|a
 ·go_enter func178,ntmps178;go_wp2;go_ret2;exact ⟨rfl,rfl⟩
 ·have h0:¬p<0:=by omega
  go_enter func178,ntmps178;go_wp2;go_ret2;exact ⟨rfl,rfl⟩
theorem ZBJ (s:ByteArray) (a:Nat) (w:World) (hs:s.size<=4000000000000000000) (i:a<s.size) :
  Calls prog 178 #[.string s,.int .i64 a] w fun e w'=>e=.returned (.tuple #[.int .i64 (Utf8.decode s a).1,.int .i64 (Utf8.decode s a).2])/\w=w':=by
 have f:=ZDe s a;have b:=ZDf s a i;have c:=ZDg s a i;have d:=ZDh s a i;have g:=ZDd s a;have j:=fun W=>ZpA s a 1 ((s.get! a).toNat%32:Nat) 2 W (by omega) (by omega) (by omega) (by omega) (by omega);have m:=fun W=>ZpA s a 2 ((s.get! a).toNat%16:Nat) 3 W (by omega) (by omega) (by omega) (by omega) (by omega);have k:=fun W=>ZpA s a 3 ((s.get! a).toNat%8:Nat) 4 W (by omega) (by omega) (by omega) (by omega) (by omega);have E:=Zfi s 1 (a+1) ((s.get! a).toNat%32:Nat) (by omega);have I:=Zfi s 2 (a+1) ((s.get! a).toNat%16:Nat) (by omega);have z:=Zfi s 3 (a+1) ((s.get! a).toNat%8:Nat) (by omega);obtain ⟨x,u⟩:=Xn (s.get! a);have V:s[a]'i=x:=by rw [<- u];exact (Utf8W.get!_of_lt s a i).symm
 rw [u] at f b c d g E I z;simp only [u] at j m k;clear u;have hb:(x.toNat:Int)<256:=by have:=x.toNat_lt;omega
 have U:((x.toNat:Int)%32)=((x.toNat%32:Nat):Int):=by omega
 have S:((x.toNat:Int)%16)=((x.toNat%16:Nat):Int):=by omega
 have N:((x.toNat:Int)%8)=((x.toNat%8:Nat):Int):=by omega
 obtain ⟨⟨M,T⟩,y⟩:∃r,ZdI s 1 (a+1) ((x.toNat%32:Nat):Int)=r:=⟨_,rfl⟩;obtain ⟨⟨v3,L⟩,J⟩:∃r,ZdI s 2 (a+1) ((x.toNat%16:Nat):Int)=r:=⟨_,rfl⟩;obtain ⟨⟨v4,R⟩,B⟩:∃r,ZdI s 3 (a+1) ((x.toNat%8:Nat):Int)=r:=⟨_,rfl⟩;rw [y] at b E;rw [J] at c I;rw [B] at d z;simp only [y] at j;simp only [<- U] at j;simp only [J] at m;simp only [<- S] at m;simp only [B] at k;simp only [<- N] at k;clear y J B U S N;dsimp only at b c d E I z;obtain ⟨D,O⟩:=Xn (Utf8.decode s a);rw [O] at g f b c d ⊢;clear O;have F:=Y4 j;have h:=Y4 m;have o:=Y4 k;clear j m k
 by_cases c1:x.toNat<128
 ·obtain rfl:=f c1;have G:(x.toNat:Int)<128:=by omega
  clear g f b c d;go_enter func178,ntmps178;go_wp2;go_ret2;exact ⟨rfl,rfl⟩
 ·have G:¬(x.toNat:Int)<128:=by omega
  by_cases c2:x.toNat / 32=6
  ·have A:((x.toNat:Int) / 32 == 6)=true:=by simp;omega
   have H:((x.toNat:Int) / 16 == 14)=false:=by simp;omega
   have C:((x.toNat:Int) / 8 == 30)=false:=by simp;omega
   have p:=b c2;clear g f b c d c1 c2
   by_cases t:T=true/\128<=M
   ·rw [Xe t] at p;obtain ⟨rfl,l⟩:=t;subst p;go_enter func178,ntmps178;go_wp2_with fail;refine (F.z _).mono ?_;rintro e w' ⟨rfl,rfl⟩;go_wp2;go_ret2;exact ⟨Zjx (by omega) rfl,rfl⟩
   ·rw [Xc t] at p;subst p;cases T
    ·clear t;go_enter func178,ntmps178;go_wp2_with fail;refine (F.z _).mono ?_;rintro e w' ⟨rfl,rfl⟩;go_wp2;go_ret2;exact ⟨rfl,rfl⟩
    ·have l:M<128:=by simp at t;omega
     clear t;go_enter func178,ntmps178;go_wp2_with fail;refine (F.z _).mono ?_;rintro e w' ⟨rfl,rfl⟩;go_wp2;go_ret2;exact ⟨rfl,rfl⟩
  ·by_cases c3:x.toNat / 16=14
   ·have A:((x.toNat:Int) / 32 == 6)=false:=by simp;omega
    have H:((x.toNat:Int) / 16 == 14)=true:=by simp;omega
    have C:((x.toNat:Int) / 8 == 30)=false:=by simp;omega
    have n:=c c3;clear g f b c d c1 c2 c3
    by_cases t:L=true/\2048<=v3/\(v3<55296\/57343<v3)
    ·rw [Xe t] at n;obtain ⟨rfl,l,t3⟩:=t;subst n
     by_cases t4:v3<55296
     ·clear t3;go_enter func178,ntmps178;go_wp2_with fail;refine (h.z _).mono ?_;rintro e w' ⟨rfl,rfl⟩;go_wp2;go_ret2;exact ⟨Zjx (by omega) rfl,rfl⟩
     ·have t5:57343<v3:=by omega
      clear t3;go_enter func178,ntmps178;go_wp2_with fail;refine (h.z _).mono ?_;rintro e w' ⟨rfl,rfl⟩;go_wp2;go_ret2;exact ⟨Zjx (by omega) rfl,rfl⟩
    ·rw [Xc t] at n;subst n;cases L
     ·clear t;go_enter func178,ntmps178;go_wp2_with fail;refine (h.z _).mono ?_;rintro e w' ⟨rfl,rfl⟩;go_wp2;go_ret2;exact ⟨rfl,rfl⟩
     ·by_cases l:v3<2048
      ·clear t;go_enter func178,ntmps178;go_wp2_with fail;refine (h.z _).mono ?_;rintro e w' ⟨rfl,rfl⟩;go_wp2;go_ret2;exact ⟨rfl,rfl⟩
      ·have t3:¬v3<55296:=by simp at t;omega
       have t4:¬ 57343<v3:=by simp at t;omega
       clear t;go_enter func178,ntmps178;go_wp2_with fail;refine (h.z _).mono ?_;rintro e w' ⟨rfl,rfl⟩;go_wp2;go_ret2;exact ⟨rfl,rfl⟩
   ·by_cases q:x.toNat / 8=30
    ·have A:((x.toNat:Int) / 32 == 6)=false:=by simp;omega
     have H:((x.toNat:Int) / 16 == 14)=false:=by simp;omega
     have C:((x.toNat:Int) / 8 == 30)=true:=by simp;omega
     have v:=d q;clear g f b c d c1 c2 c3 q
     by_cases t:R=true/\65536<=v4/\v4<=1114111
     ·rw [Xe t] at v;obtain ⟨rfl,l,t3⟩:=t;subst v;go_enter func178,ntmps178;go_wp2_with fail;refine (o.z _).mono ?_;rintro e w' ⟨rfl,rfl⟩;go_wp2;go_ret2;exact ⟨Zjx (by omega) rfl,rfl⟩
     ·rw [Xc t] at v;subst v;cases R
      ·clear t;go_enter func178,ntmps178;go_wp2_with fail;refine (o.z _).mono ?_;rintro e w' ⟨rfl,rfl⟩;go_wp2;go_ret2;exact ⟨rfl,rfl⟩
      ·by_cases l:v4<65536
       ·clear t;go_enter func178,ntmps178;go_wp2_with fail;refine (o.z _).mono ?_;rintro e w' ⟨rfl,rfl⟩;go_wp2;go_ret2;exact ⟨rfl,rfl⟩
       ·have t3:¬v4<=1114111:=by simp at t;omega
        clear t;go_enter func178,ntmps178;go_wp2_with fail;refine (o.z _).mono ?_;rintro e w' ⟨rfl,rfl⟩;go_wp2;go_ret2;exact ⟨rfl,rfl⟩
    ·have A:((x.toNat:Int) / 32 == 6)=false:=by simp;omega
     have H:((x.toNat:Int) / 16 == 14)=false:=by simp;omega
     have C:((x.toNat:Int) / 8 == 30)=false:=by simp;omega
     obtain rfl:=g c1 c2 c3 q;clear f b c d g c1 c2 c3 q;go_enter func178,ntmps178;go_wp2;go_ret2;exact ⟨rfl,rfl⟩
