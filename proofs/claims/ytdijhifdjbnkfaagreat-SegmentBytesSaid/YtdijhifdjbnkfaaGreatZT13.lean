import Derived.Test.YtdijhifdjbnkfaaGreatZT5
import Derived.Test.YtdijhifdjbnkfaaGreatZT12
set_option maxRecDepth 100000
set_option maxHeartbeats 0
set_option linter.unusedVariables false
set_option linter.unusedSimpArgs false
namespace Go.Proofs.YtdijhifdjbnkfaaGreat
open Lib (hid)
open Tryz
namespace EV
open RowKit MM EM
open TK (Zbr Zmv ZkR ZfG Zhs)
theorem Zyj (l:Xu) (w:World):Calls prog 123 #[.string ⟨l.toArray⟩] w (ZfG (Zbr l) w):=by
 have h:=hid (Zmv ⟨l.toArray⟩ w);rw [Zd7] at h;go_enter func123,ntmps123;go_wp2_with fail;refine h.out.mono ?_;rintro e w2 ⟨rfl,a⟩;have b:=hid a;clear h a;go_wp2_with fail;go_ret;exact ⟨rfl,b.out⟩
theorem ZvC (l:Xu) (w:World):Calls prog 118 #[.string ⟨l.toArray⟩] w (ZfG (Zbr l) w):=by
 by_cases h:l.length<=1000000000000
 ·have:=ZkR ⟨l.toArray⟩ w (by rw [Zbh];exact h);rw [Zd7] at this;exact this
 ·have e:Zbr l=false:=by unfold TK.Zbr;rw [XB (show ¬(1<=l.length/\l.length<=32) by omega)];simp
  rw [e];have t1:decide ((l.length:Int)<1)=false:=Xf;have t2:decide (l.length<1)=false:=Xf;have t3:decide ((l.length:Int)>32)=true:=Xt;have t4:decide (32<l.length)=true:=Xt;have hs:=Zbh l;clear e h;go_enter func118,ntmps118;go_wp2_with fail;go_ret;exact ⟨rfl,Below.refl _ _⟩
def ZbP (z:Int) (w:World) (e:Ending) (w':World):Prop:=e=.returned (.int .i64 z)/\Below w.heap.size w w'
theorem Zet (z:Int) (v:Value) (fs:List Fld) (w:World) (t:ZN Z8 w v fs):Calls prog 73 #[.agg #[.int .i64 z,v]] w (ZbP (ZG (z,fs)) w):=by
 obtain ⟨p,s,rfl,N,D,_⟩:=t.shape;unfold maxLen at D
 by_cases g:16<fs.length
 ·have O:decide ((fs.length:Int)>16)=true:=Xt;have e:ZG (z,fs)=3:=by unfold ZG;rw [Xe g]
  rw [e];clear e t g;have o:Below w.heap.size w (w.alloc (.cells #[.int .i64 z,.slice p fs.length s] 57)):=(Below.refl _ _).alloc (Xc _) _;have y:=hid o;clear o;go_enter func73,ntmps73;go_wp2_with fail;go_ret;exact ⟨rfl,y.out⟩
 ·have O:decide ((fs.length:Int)>16)=false:=Xf;obtain ⟨j,f⟩:=Xn (ZG (z,fs));have H:Zeb (fs.drop 0)=j:=by rw [<- f];unfold ZG;rw [Xa g];rfl
  rw [f];have o:Below w.heap.size w (w.alloc (.cells #[.int .i64 z,.slice p fs.length s] 57)):=(Below.refl _ _).alloc (Xc _) _;have y:=hid o;have F:=hid H;have M:=hid t;clear o H t f g;go_enter func73,ntmps73;go_wp2_with fail
  go_loopw [12] (fun B wr=>∃i:Nat,i<=fs.length/\B=.int .i64 i/\Hid (Zeb (fs.drop i)=j)/\Hid (Below w.heap.size w wr)) (fun B _=>fs.length - (intOf B).toNat)
  case atStart=>exact ⟨0,by omega,rfl,F,y⟩
  case round =>
   obtain ⟨i,hi,rfl,A,h⟩:=hrel;clear F y
   by_cases d:i<fs.length
   ·have R:decide ((i:Int)<(fs.length:Int))=true:=Xt;have T:decide (i<fs.length)=true:=Xt;obtain ⟨b,off,rfl,L,_,c1,c2⟩:=ZeR (M.out.below h.out) d;have a:=A.out;rw [Zkw d] at a;generalize fs[i].1=n at *;generalize fs[i].2=x at *;have m:=hid a;have C:=hid d;have J:=fun W=>Zyj n W;generalize Zbr n=U at *;have I:=hid J;have r:=h.out.size;clear a A J d;go_wp2_with fail;refine (I.out _).mono ?_;rintro e G ⟨rfl,l⟩;have q:Below wr.heap.size wr G:=((Below.refl _ wr).alloc (Xc _) _).trans (l.mono (by simp));have cx:G.cell? ⟨wr.heap.size,1,none⟩=some (.string ⟨x.toArray⟩):=(l.cell (p:=⟨wr.heap.size,1,none⟩) (by simp)).trans (ZhR wr _ _ _).2;have k:=hid (h.out.trans (q.mono r));clear l q I c1 c2 r;cases U with
    | false =>
      have c:=m.out;rw [Xe rfl] at c;subst c;clear m;go_wp2_with fail;go_ret;exact ⟨rfl,k.out⟩
    | true =>
      by_cases u:4096<x.length
      ·have S:decide ((x.length:Int)>4096)=true:=Xt;have c:=m.out;rw [Xa (by simp),Xe u] at c;subst c;clear m u;go_wp2_with fail;go_ret;exact ⟨rfl,k.out⟩
      ·have S:decide ((x.length:Int)>4096)=false:=Xf;have c:=m.out;rw [Xa (by simp),Xa u] at c;have E:=hid c;clear m u c;go_wp2_with fail;have d:=C.out;go_roundw
       case rel=>exact ⟨i+1,by omega,by go_num,E,k⟩
       case measure=>simp [intOf];omega
   ·obtain rfl:i=fs.length:=by omega
    have R:decide ((fs.length:Int)<(fs.length:Int))=false:=by simp
    have T:decide (fs.length<fs.length)=false:=by simp
    have c:=A.out;rw [Xae] at c;have c:0=j:=c;subst c;clear A;go_wp2_with fail;go_ret;exact ⟨rfl,h.out⟩
def Za1 (w:World) (z:Int) (v:Value):World:=w.alloc (.cells #[.int .i64 z,v] 57)
theorem ZbB (w:World) (z:Int) (v:Value):Below w.heap.size w (Za1 w z v):=(Below.refl _ _).alloc (Xc _) _
theorem ZbZ (w:World) (z:Int) (v:Value):(Za1 w z v).heap.size=w.heap.size+1:=by unfold Za1;simp
theorem ZwN (w:World) (z:Int) (v:Value):(Za1 w z v).cell? ⟨w.heap.size,0,none⟩=some (.int .i64 z)/\(Za1 w z v).cell? ⟨w.heap.size,1,none⟩=some v:=ZhR w _ _ _
theorem ZcR {w wr:World} {z:Int} {v:Value} (h:Below (Za1 w z v).heap.size (Za1 w z v) wr):wr.cell? ⟨w.heap.size,0,none⟩=some (.int .i64 z)/\wr.cell? ⟨w.heap.size,1,none⟩=some v/\Below w.heap.size w wr :=
 ⟨(h.cell (p:=⟨w.heap.size,0,none⟩) (by rw [ZbZ];simp)).trans (ZwN w z v).1,(h.cell (p:=⟨w.heap.size,1,none⟩) (by rw [ZbZ];simp)).trans (ZwN w z v).2,(ZbB w z v).trans (h.mono (by rw [ZbZ];omega))⟩
theorem ZiC (z:Int) (v:Value) (fs:List Fld) (w:World) (t:ZN Z8 w v fs):Calls prog 70 #[.agg #[.int .i64 z,v]] w (ZbP (ZG (z,fs)) w):=by
 obtain ⟨p,d,rfl,R,F,_⟩:=t.shape;unfold maxLen at F
 by_cases j:16<fs.length
 ·have S:decide ((fs.length:Int)>16)=true:=Xt;have e:ZG (z,fs)=3:=by unfold ZG;rw [Xe j]
  rw [e];clear e t j;have y:=hid (ZbB w z (.slice p fs.length d));go_enter func70,ntmps70;go_wp2_with fail;go_ret;exact ⟨rfl,y.out⟩
 ·have S:decide ((fs.length:Int)>16)=false:=Xf;obtain ⟨m,h⟩:=Xn (ZG (z,fs));have J:Zeb (fs.drop 0)=m:=by rw [<- h];unfold ZG;rw [Xa j];rfl
  rw [h];have y:=hid (Below.refl (Za1 w z (.slice p fs.length d)).heap.size (Za1 w z (.slice p fs.length d)));have H:=hid J;have O:=hid t;clear J t h j;go_enter func70,ntmps70;go_wp2_with fail
  go_loopw [3] (fun B wr=>∃i:Nat,i<=fs.length/\B=.int .i64 i/\Hid (Zeb (fs.drop i)=m)/\Hid (Below (Za1 w z (.slice p fs.length d)).heap.size (Za1 w z (.slice p fs.length d)) wr)) (fun B _=>fs.length - (intOf B).toNat)
  case atStart=>exact ⟨0,by omega,rfl,H,y⟩
  case round =>
   obtain ⟨i,hi,rfl,A,l⟩:=hrel;clear H y;obtain ⟨_,M,f⟩:=ZcR l.out
   by_cases g:i<fs.length
   ·have T:decide ((i:Int)<(fs.length:Int))=true:=Xt;have W:decide (i<fs.length)=true:=Xt;obtain ⟨b,off,rfl,E,_,c1,c2⟩:=ZeR (O.out.below f) g;have a:=A.out;rw [Zkw g] at a;generalize fs[i].1=n at *;generalize fs[i].2=x at *;have q:=hid a;have D:=hid g;have N:=ZvC n wr;generalize Zbr n=X at *;have L:=hid N;have r:=l.out.size;have s:=f.size;rw [ZbZ] at r;clear a A N g f;go_wp2_with fail;refine L.out.mono ?_;rintro e I ⟨rfl,k⟩;have cx:I.cell? ⟨b,off+i*2+1,none⟩=some (.string ⟨x.toArray⟩):=(k.cell (p:=⟨b,off+i*2+1,none⟩) E).trans c2;have U:I.cell? ⟨w.heap.size,1,none⟩=some (.slice (some ⟨b,off,none⟩) fs.length d):=(k.cell (p:=⟨w.heap.size,1,none⟩) (show w.heap.size<wr.heap.size by omega)).trans M;have o:=hid (l.out.trans (k.mono l.out.size));clear k L c1 c2 M r s;cases X with
    | false =>
      have c:=q.out;rw [Xe rfl] at c;subst c;clear q;go_wp2_with fail;go_ret;exact ⟨rfl,(ZcR o.out).2.2⟩
    | true =>
      by_cases u:4096<x.length
      ·have V:decide ((x.length:Int)>4096)=true:=Xt;have c:=q.out;rw [Xa (by simp),Xe u] at c;subst c;clear q u;go_wp2_with fail;go_ret;exact ⟨rfl,(ZcR o.out).2.2⟩
      ·have V:decide ((x.length:Int)>4096)=false:=Xf;have c:=q.out;rw [Xa (by simp),Xa u] at c;have G:=hid c;clear q u c;go_wp2_with fail;have g:=D.out;go_roundw
       case rel=>exact ⟨i+1,by omega,by go_num,G,o⟩
       case measure=>simp [intOf];omega
   ·obtain rfl:i=fs.length:=by omega
    have T:decide ((fs.length:Int)<(fs.length:Int))=false:=by simp
    have W:decide (fs.length<fs.length)=false:=by simp
    have c:=A.out;rw [Xae] at c;have c:0=m:=c;subst c;have C:=hid f;clear A f;go_wp2_with fail;go_ret;exact ⟨rfl,C.out⟩
theorem wrap_add (a b:Int):wrap64 (wrap64 a+b)=wrap64 (a+b):=by unfold wrap64;omega
theorem Zwj (a b:Int):wrap64 (a+wrap64 b)=wrap64 (a+b):=by unfold wrap64;omega
def Zhr (fs:List Fld):Int:=wrap64 (16+(Zao fs:Int))
theorem ZsS {fs:List Fld} {k:Nat} (a:k<fs.length):wrap64 (Zhr (fs.take k)+((fs[k].1.length:Int)+(fs[k].2.length:Int)))=Zhr (fs.take (k+1)):=by
 unfold Zhr;rw [wrap_add,ZsR a];congr 1
 omega
def ZcF (b:Bool) (w:World) (e:Ending) (w':World):Prop:=e=.returned (.bool b)/\Below w.heap.size w w'
theorem ZnN {α:Type} [DecidableEq α] {a b:List α} {i:Nat} (c:i<a.length) (d:i<b.length):decide (a.drop i=b.drop i)=(decide (a[i]=b[i])&&decide (a.drop (i+1)=b.drop (i+1))):=by
 rw [X9 c,X9 d];rw [Bool.eq_iff_iff,Xg,Xy,Xg,Xg,Xa6]
theorem ZCf (g e c d:Xu) (W:World):(Op.equalIn 10000 123 (.agg #[.string ⟨g.toArray⟩,.string ⟨e.toArray⟩]) (.agg #[.string ⟨c.toArray⟩,.string ⟨d.toArray⟩])).run prog W=.ok (decide (g=c)&&decide (e=d)) W:=by
 have s1:=Zb5 g c;have s2:=Zb5 e d;have m:prog.underlying 123=some (.struct (prog.fieldsOf 123)):=by kernel_rfl
 have q:prog.stoodInHeld 123=false:=by kernel_rfl
 have h:(prog.fieldsOf 123).toList.map (fun f=>(f.name == "_", f.type,f.offset))=[(false,9,0),(false,9,1)]:=by kernel_rfl
 rw [show (10000:Nat)=9998+1+1 from rfl,run_equalIn_struct W _ _ _ _ m q];generalize (prog.fieldsOf 123).toList=fs at h
 obtain ⟨f0,f1,rfl⟩:∃a b,fs=[a,b]:=by
  have k:=Xp List.length h;rw [XE] at k
  match fs,k with
  | [a,b],_=>exact ⟨a,b,rfl⟩
 simp only [XF,XV,Xa6,X8,and_true] at h;obtain ⟨⟨j,t0,o⟩,⟨i,n,p⟩⟩:=h;have j:f0.name ≠ "_" := by simpa using j
 have i:f1.name ≠ "_" := by simpa using i
 have a9:=Tryz.isAgg9;have z9:=Tryz.sizeOf9;have u9:=underlying9;simp only [Op.eqFields,j,i,t0,n,o,p,ne_eq,not_false_eq_true,if_true];go_simp
 by_cases r:g=c<;>by_cases l:e=d<;>simp [s1,s2,r,l]
theorem Zv6 (w:World) (b a:Int) (u v:Value):Below w.heap.size w (Za1 (Za1 w b u) a v):=(ZbB w b u).trans ((ZbB _ a v).mono (by rw [ZbZ];omega))
theorem ZwO {w wr:World} {a c:Int} {u v:Value} (h:Below (Za1 (Za1 w a u) c v).heap.size (Za1 (Za1 w a u) c v) wr) :
  wr.cell? ⟨w.heap.size,0,none⟩=some (.int .i64 a)/\wr.cell? ⟨w.heap.size,1,none⟩=some u/\wr.cell? ⟨w.heap.size+1,0,none⟩=some (.int .i64 c)/\wr.cell? ⟨w.heap.size+1,1,none⟩=some v/\Below w.heap.size w wr:=by
 obtain ⟨f,d,e⟩:=ZcR h;rw [ZbZ] at f d;have b:=ZcR (w:=w) (z:=a) (v:=u) (wr:=wr) (by rw [ZbZ] at e ⊢;exact e);exact ⟨b.1,b.2.1,f,d,b.2.2⟩
theorem ZAq (c a:Int) (b d:List Fld):decide ((c,b)=(a,d))=((c == a)&&decide (b=d)):=by
 rw [Bool.eq_iff_iff];simp
theorem ZvH (g d:Int) (u v:Value) (j f:List Fld) (w:World) (D:ZN Z8 w u j) (C:ZN Z8 w v f):Calls prog 56 #[.agg #[.int .i64 g,u],.agg #[.int .i64 d,v]] w (ZcF (decide ((g,j)=(d,f))) w):=by
 have G:=hid (Zv6 w g d u v);rw [ZAq];obtain ⟨F,b,rfl,U,O,_⟩:=D.shape;obtain ⟨I,a,rfl,T,S,_⟩:=C.shape;unfold maxLen at O S
 by_cases h:g=d
 ·have t1:(g != d)=false:=by simp [h]
  have A:(g == d)=true:=by simp [h]
  rw [A,Xag]
  by_cases l:j.length=f.length
  ·have t0:(((j.length:Int)) != ((f.length:Int)))=false:=by simp [l]
   obtain ⟨n,q⟩:=Xn j.length;have p:f.length=n:=by omega
   obtain ⟨s,m⟩:=Xn (decide (j=f));have h0:decide (j.drop 0=f.drop 0)=s:=m;rw [m];have W:=hid h0;have HU:=hid D;have HV:=hid C;have x:=hid q;have t:=hid p;rw [q,p] at t0;rw [q] at U G ⊢;rw [p] at T G ⊢;have B:=hid (Below.refl (Za1 (Za1 w g (.slice F n b)) d (.slice I n a)).heap.size (Za1 (Za1 w g (.slice F n b)) d (.slice I n a)));clear h0 D C m l q p h A;go_enter func56,ntmps56;go_wp2_with fail
   go_loopw [5] (fun L wr=>∃i:Nat,i<=n/\L=.int .i64 i/\Hid (decide (j.drop i=f.drop i)=s)/\Hid (Below (Za1 (Za1 w g (.slice F n b)) d (.slice I n a)).heap.size (Za1 (Za1 w g (.slice F n b)) d (.slice I n a)) wr)) (fun L _=>n - (intOf L).toNat)
   case atStart=>exact ⟨0,by omega,rfl,W,B⟩
   case round =>
    obtain ⟨i,hi,rfl,J,E⟩:=hrel;clear W B;obtain ⟨_,k1,_,k2,c⟩:=ZwO E.out
    by_cases k:i<n
    ·have q1:decide ((i:Int)<(n:Int))=true:=Xt;have q2:decide (i<n)=true:=Xt;have q3:(i:Int)<n:=by omega
     have R:i<j.length:=by rw [x.out];exact k
     have M:i<f.length:=by rw [t.out];exact k
     have y:=HU.out.below c;have z:=HV.out.below c;rw [x.out] at y;rw [t.out] at z;obtain ⟨b1,o1,rfl,ab,_,c1,c2⟩:=ZeR y R;obtain ⟨b2,o2,rfl,ac,_,c3,c4⟩:=ZeR z M;have o:=J.out;rw [ZnN R M] at o;generalize j[i]=X at *;generalize f[i]=Y at *;have aa:=ZCf X.1 X.2 Y.1 Y.2
     have Z:decide (X=Y)=(decide (X.1=Y.1)&&decide (X.2=Y.2)):=by
      rw [Bool.eq_iff_iff,Xg,Xy,Xg,Xg];exact Prod.ext_iff
     rw [Z] at o;obtain ⟨X1,X2⟩:=X;obtain ⟨Y1,Y2⟩:=Y;dsimp only at *;generalize decide (X1=Y1)=d1 at *;generalize decide (X2=Y2)=d2 at *;have H:=hid o;have N:=hid k;have r:=hid c;clear o Z k y z R M J c;cases d1<;>cases d2
     case true.true =>
      have l:=H.out;rw [Xag,Xag] at l;have V:=hid l;clear H l;go_wp2_with fail;go_quiet (fail)
      go_wp2_with fail;have k:=N.out;go_roundw
      case rel=>exact ⟨i+1,by omega,by go_num,V,hid (MM.below_drewN E.out _)⟩
      case measure=>simp [intOf];omega
     all_goals
      have l:=H.out;simp only [Xad,Xa4] at l;subst l;clear H;go_wp2_with fail;go_quiet (fail)
      go_wp2_with fail;go_ret;exact ⟨rfl,MM.below_drewN r.out _⟩
    ·obtain rfl:i=n:=by omega
     have q1:decide ((i:Int)<(i:Int))=false:=by simp
     have q2:decide (i<i)=false:=by simp
     have hf:s=true:=by
      rw [<- J.out,XaH (by rw [x.out];exact Xc _),XaH (by rw [t.out];exact Xc _)];simp
     subst hf;have r:=hid c;clear J c;go_wp2_with fail;go_ret;exact ⟨rfl,r.out⟩
  ·have t0:(((j.length:Int)) != ((f.length:Int)))=true:=by simp;omega
   have e:decide (j=f)=false:=XB fun h=>l (by rw [h]);rw [e];clear D C e l h A;go_enter func56,ntmps56;go_wp2_with fail;go_ret;exact ⟨rfl,G.out⟩
 ·have t1:(g != d)=true:=by simp [h]
  have A:(g == d)=false:=by simp [h]
  rw [A,Xad];clear h D C A;go_enter func56,ntmps56;go_wp2_with fail;go_ret;exact ⟨rfl,G.out⟩
end EV
namespace ST
open RowKit MM EM SM
open EV (ZA evC Z8 Zad ZcF ZbP Za1 ZbB ZbZ ZcR)
theorem ZBr (v:Value) (l:List Zo) (w:World) (x:ZN ZA w v l):Calls prog 86 #[v] w (ZcF (isS l) w):=by
 obtain ⟨p,aa,rfl,T,H,_⟩:=x.shape;unfold maxLen at H
 by_cases F:l.length<=65536
 ·obtain ⟨r,g⟩:=Xn (isS l);have O:isR 0 (l.drop 0)=r:=by rw [<- g];unfold isS;rw [Xw F];simp
  have Z:decide ((l.length:Int)>65536)=false:=Xf;have G:decide (65536<l.length)=false:=XB (by omega);rw [g];have M:=hid O;have Y:=hid x;clear O g x;go_enter func86,ntmps86;go_wp2_with fail
  go_loopw [3,4] (fun lv A wr=>∃(i:Nat) (z:Int),i<=l.length/\A=.int .i64 i/\lv=.int .i64 z/\Hid (isR z (l.drop i)=r)/\Hid (Below w.heap.size w wr)) (fun _ A _=>l.length - (intOf A).toNat)
  case atStart=>exact ⟨0,0,by omega,rfl,rfl,M,hid (Below.refl _ _)⟩
  case round =>
   obtain ⟨i,z,hi,rfl,rfl,o,m⟩:=hrel;clear M
   by_cases f:i<l.length
   ·have V:decide ((i:Int)<(l.length:Int))=true:=Xt;have X:decide (i<l.length)=true:=Xt;obtain ⟨b,off,S,rfl,E,_,c1,c2,c3,q⟩:=Zad (Y.out.below m.out) f;have a:=o.out;rw [Zmt f] at a;obtain ⟨⟨h,⟨at_,fs⟩⟩,u⟩:∃d,l[i]=d:=⟨_,rfl⟩;rw [u] at c1 c2 q a;dsimp only at c1 c2 q a;unfold okS at a;dsimp only at a
    by_cases t:z<h
    ·by_cases y:h<=1099511627776
     ·have N:decide (h<=z)=false:=Xf;have U:decide (h>1099511627776)=false:=Xf;have t3:decide (1099511627776<h)=false:=Xf;rw [Xw t,Xw y,Xag,Xag] at a;have I:=hid a;have R:=hid (EV.ZiC at_ S fs wr q.any);have J:=hid c1;have C:=hid E;have D:=hid f;clear o a u t y q f;go_wp2_with fail;refine R.out.mono ?_;rintro e w2 ⟨rfl,k⟩;have s:=hid (m.out.trans (k.mono m.out.size));have W:=(k.cell (p:=⟨b,off+i*3,none⟩) C.out).trans J.out;clear k R c1 c2 c3;obtain ⟨c,B⟩:=Xn (ZG (at_,fs));have j:=I.out;rw [B] at j ⊢
      by_cases n:c=0
      ·have t4:(c != 0)=false:=by simp [n]
       rw [Xw n,Xag] at j;have L:=hid j;clear I j B n;go_wp2_with fail;have f:=D.out;go_roundw
       case rel=>exact ⟨i+1,h,by omega,by go_num,rfl,L,s⟩
       case measure=>simp [intOf];omega
      ·have t4:(c != 0)=true:=by simp [n]
       rw [XB n,Xad] at j;subst j;clear I B n;go_wp2_with fail;go_ret;exact ⟨rfl,s.out⟩
     ·have N:decide (h<=z)=false:=Xf;have U:decide (h>1099511627776)=true:=Xt;have t3:decide (1099511627776<h)=true:=Xt;rw [XB y,Xa4,Xad,Xad] at a;subst a;clear o u t y q;go_wp2_with fail;go_ret;exact ⟨rfl,m.out⟩
    ·have N:decide (h<=z)=true:=Xt;rw [XB t,Xad,Xad,Xad] at a;subst a;clear o u t q;go_wp2_with fail;go_ret;exact ⟨rfl,m.out⟩
   ·obtain rfl:i=l.length:=by omega
    have V:decide ((l.length:Int)<(l.length:Int))=false:=by simp
    have X:decide (l.length<l.length)=false:=by simp
    have j:=o.out;rw [ZtD] at j;subst j;clear o f;go_wp2_with fail;go_ret;exact ⟨rfl,m.out⟩
 ·have Z:decide ((l.length:Int)>65536)=true:=Xt;have G:decide (65536<l.length)=true:=Xw (by omega);have e:isS l=false:=by unfold isS;rw [XB F];rfl
  rw [e];clear e x F;go_enter func86,ntmps86;go_wp2_with fail;go_ret;exact ⟨rfl,Below.refl _ _⟩
open EV (ZA evC Z8 Zad ZcF ZbP)
end ST
namespace EV
open RowKit MM EM
theorem ZcN (z:Int) (v:Value) (fs:List Fld) (w:World) (j:ZN Z8 w v fs):Calls prog 124 #[.agg #[.int .i64 z,v]] w (ZbP (Zhr fs) w):=by
 obtain ⟨p,m,rfl,y,k,_⟩:=j.shape;unfold maxLen at k;have r:=hid (ZbB w z (.slice p fs.length m));have u:=hid j;have o:Hid (Zhr (fs.take 0)=16):=hid (by simp [Zhr,Zao,wrap64]);clear j;go_enter func124,ntmps124;go_wp2_with fail
 go_loopw [3,9] (fun A g wr=>∃(i:Nat) (s:Int),i<=fs.length/\g=.int .i64 i/\A=.int .i64 s/\Hid (Zhr (fs.take i)=s)/\Hid (Below w.heap.size w wr)) (fun _ g _=>fs.length - (intOf g).toNat)
 case atStart=>exact ⟨0,16,by omega,rfl,rfl,o,r⟩
 case round =>
  obtain ⟨i,s,hi,rfl,rfl,f,d⟩:=hrel;clear o r
  by_cases c:i<fs.length
  ·have C:decide ((i:Int)<(fs.length:Int))=true:=Xt;have D:decide (i<fs.length)=true:=Xt;obtain ⟨b,off,rfl,t,_,c1,c2⟩:=ZeR (u.out.below d.out) c;have a:=ZsS c;rw [f.out,<- Zwj] at a;generalize fs[i].1=n at *;generalize fs[i].2=x at *;have B:=hid a;have h:=hid c;have e:Below wr.heap.size wr (wr.alloc (.cells #[.string ⟨n.toArray⟩,.string ⟨x.toArray⟩] 123)):=(Below.refl _ wr).alloc (Xc _) _;have l:=hid (d.out.trans (e.mono d.out.size));clear a f c e;go_wp2_with fail;have c:=h.out;go_roundw
   case rel=>exact ⟨i+1,_,by omega,by go_num,rfl,hid B.out.symm,l⟩
   case measure=>simp [intOf];omega
  ·obtain rfl:i=fs.length:=by omega
   have C:decide ((fs.length:Int)<(fs.length:Int))=false:=by simp
   have D:decide (fs.length<fs.length)=false:=by simp
   have q:=f.out;rw [XC] at q;subst q;clear f;go_wp2_with fail;go_ret;exact ⟨rfl,d.out⟩
end EV
namespace SG
open RowKit MM
open EV (ZA evC Z8 Zad ZbP Zhr)
open EM (Zao)
open SM (Zo)
open GM (ZcE Zki ZoG)
theorem ZkW {fs:List EM.Fld} (h:Zao fs<=1000000):Zhr fs=((16+Zao fs:Nat):Int):=by
 unfold Zhr;rw [IntWalk.wrap64_in _ ⟨by omega,by omega⟩];omega
theorem ZvM (v:Value) (l:List Zo) (w:World) (H:ZN ZA w v l) (hs:ZcE l<=100000):Calls prog 74 #[v] w (ZbP (ZcE l:Int) w):=by
 obtain ⟨p,aa,rfl,ac,I,_⟩:=H.shape;unfold maxLen at I;obtain ⟨M,z⟩:=Xn (ZcE l);have U:Hid (ZcE (l.take l.length)=M):=hid (by rw [XC];exact z);have u:=hid (fun k=>z▸ZoG l k);have L:=hid (fun (k:Nat) (hk:k<l.length)=>Zki hk);have HV:=hid H;have O:Hid (ZcE (l.take 0)=0):=hid (by simp [ZcE]);rw [z] at hs ⊢;clear H z;go_enter func74,ntmps74;go_wp2_with fail
 go_loopw [3,8] (fun sv B wr=>∃(i s:Nat),i<=l.length/\B=.int .i64 i/\sv=.int .i64 s/\s<=100000/\Hid (ZcE (l.take i)=s)/\Hid (Below w.heap.size w wr)) (fun _ B _=>l.length - (intOf B).toNat)
 case atStart=>exact ⟨0,0,by omega,rfl,rfl,by omega,O,hid (Below.refl _ _)⟩
 case round =>
  obtain ⟨i,s,hi,rfl,rfl,ad,A,o⟩:=hrel;clear O
  by_cases c:i<l.length
  ·have q1:decide ((i:Int)<(l.length:Int))=true:=Xt;have q2:decide (i<l.length)=true:=Xt;have q3:(i:Int)<(l.length:Int):=by omega
   obtain ⟨b,off,vf,rfl,ab,_,c1,c2,c3,y⟩:=Zad (HV.out.below o.out) c;have a:=L.out i c;have N:=u.out (i+1);obtain ⟨⟨sq,⟨at_,fs⟩⟩,T⟩:∃d,l[i]=d:=⟨_,rfl⟩;rw [T] at c1 c2 y a;dsimp only at c1 c2 y a;rw [A.out] at a;have C:s+Zao fs<=100000:=by omega
   have G:=ZkW (fs:=fs) (by omega);have t:Zhr ([]:List EM.Fld)=((16:Nat):Int):=by rw [ZkW (by simp [Zao])];simp [Zao]
   obtain ⟨F,S⟩:=Xn (Zao fs);rw [S] at G a C;obtain ⟨R,Y,rfl,_⟩:=y.shape;obtain ⟨X,f⟩:=Xn (wr.alloc (.cells #[.int .i64 sq,.int .i64 at_,.slice R fs.length Y] 59));have g:Below wr.heap.size wr X:=by rw [<- f];exact (Below.refl _ _).alloc (Xc _) _
   have m:=hid (o.out.trans (g.mono o.out.size));have J:=EV.ZcN at_ (.slice R fs.length Y) fs X (y.any.below g);have h:=fun W=>EV.ZcN 0 (.slice none 0 0) [] W (ZD.nil_ _ _);rw [G] at J;simp only [t] at h;have Z:=hid J;have q:=hid h;have x:=hid f;have HN:=hid a;have D:=hid c;clear g f y o J h G t S a N T A c;go_wp2_with fail;rw [x.out];refine Z.out.mono ?_;rintro e w2 ⟨rfl,r⟩;have j:=hid (m.out.trans (r.mono m.out.size));clear r Z x m c1 c2 c3;go_wp2_with fail;refine (q.out _).mono ?_;rintro e w3 ⟨rfl,n⟩;have E:=hid (j.out.trans (n.mono j.out.size));clear n q j;go_wp2_with fail;have c:=D.out;go_roundw
   case rel=>exact ⟨i+1,s+F,by omega,by go_num,by go_num,by omega,HN,E⟩
   case measure=>simp [intOf];omega
  ·obtain rfl:i=l.length:=by omega
   have q1:decide ((l.length:Int)<(l.length:Int))=false:=by simp
   have q2:decide (l.length<l.length)=false:=by simp
   have V:=A.out;rw [U.out] at V;subst V;clear A c U u;go_wp2_with fail;go_ret;exact ⟨rfl,o.out⟩
end SG
namespace ST
open RowKit MM EM SM
open EV (ZA evC Z8 Zad ZcF ZbP)
def ZCg (b:Bool):Int:=if b then 0 else 120
theorem Zf7 (v:Value) (l:List Zo) (w:World) (H:ZN ZA w v l):Calls prog 38 #[v] w (ZbP (ZCg (isS l)) w):=by
 obtain ⟨p,ac,rfl,ab,S,_⟩:=H.shape;unfold maxLen at S
 by_cases O:l.length<=65536
 ·obtain ⟨y,j⟩:=Xn (isS l);have Y:isR 0 (l.drop 0)=y:=by rw [<- j];unfold isS;rw [Xw O];simp
  have q0:decide ((l.length:Int)>65536)=false:=Xf;have R:decide (65536<l.length)=false:=XB (by omega);rw [j];have W:=hid Y;have HV:=hid H;clear Y j H;go_enter func38,ntmps38;go_wp2_with fail
  go_loopw [3,11] (fun lv L wr=>∃(i:Nat) (z:Int),i<=l.length/\L=.int .i64 i/\lv=.int .i64 z/\Hid (isR z (l.drop i)=y)/\Hid (Below w.heap.size w wr)) (fun _ L _=>l.length - (intOf L).toNat)
  case atStart=>exact ⟨0,0,by omega,rfl,rfl,W,hid (Below.refl _ _)⟩
  case round =>
   obtain ⟨i,z,hi,rfl,rfl,u,A⟩:=hrel;clear W
   by_cases h:i<l.length
   ·have q1:decide ((i:Int)<(l.length:Int))=true:=Xt;have q2:decide (i<l.length)=true:=Xt;have q3:(i:Int)<(l.length:Int):=by omega
    obtain ⟨b,off,vf,rfl,aa,_,c1,c2,c3,E⟩:=Zad (HV.out.below A.out) h;have a:=u.out;rw [Zmt h] at a;obtain ⟨⟨g,⟨at_,fs⟩⟩,G⟩:∃d,l[i]=d:=⟨_,rfl⟩;rw [G] at c1 c2 E a;dsimp only at c1 c2 E a;obtain ⟨x,C,rfl,_⟩:=E.shape;unfold okS at a;dsimp only at a;obtain ⟨q,Z⟩:=Xn wr.heap.size;obtain ⟨U,n⟩:=Xn (wr.alloc (.cells #[.int .i64 g,.int .i64 at_,.slice x fs.length C] 59));have r:Below wr.heap.size wr U:=by rw [<- n];exact (Below.refl _ _).alloc (Xc _) _
    have D:Hid (Three U q 59 (.int .i64 g) (.int .i64 at_) (.slice x fs.length C)):=hid (by rw [<- n,<- Z];exact ZaE wr 59 _ _ _);have f:=hid (A.out.trans (r.mono A.out.size));have J:=hid (EV.Zet at_ (.slice x fs.length C) fs U (E.any.below r));have k:=hid n;clear r n E A
    by_cases F:z<g
    ·by_cases I:g<=1099511627776
     ·have X:decide (g<=z)=false:=Xf;have t2:decide (g>1099511627776)=false:=Xf;have t3:decide (1099511627776<g)=false:=Xf;rw [Xw F,Xw I,Xag,Xag] at a;have T:=hid a;have N:=hid h;clear u a G F I h;go_wp2_with fail;rw [k.out];refine J.out.mono ?_;rintro e w2 ⟨rfl,s⟩;have B:=hid (f.out.trans (s.mono f.out.size));obtain ⟨f0,f1,f2⟩:=(D.out.below s D.out.lt).cells;clear s J c1 c2 c3 D f;obtain ⟨c,M⟩:=Xn (ZG (at_,fs));have m:=T.out;rw [M] at m ⊢
      by_cases t:c=0
      ·have t4:(c != 0)=false:=by simp [t]
       rw [Xw t,Xag] at m;have V:=hid m;clear T m M t;go_wp2_with fail;have h:=N.out;go_roundw
       case rel=>exact ⟨i+1,g,by omega,by go_num,rfl,V,B⟩
       case measure=>simp [intOf];omega
      ·have t4:(c != 0)=true:=by simp [t]
       rw [XB t,Xad] at m;subst m;clear T M t;go_wp2_with fail;go_ret;exact ⟨rfl,B.out⟩
     ·have X:decide (g<=z)=false:=Xf;have t2:decide (g>1099511627776)=true:=Xt;have t3:decide (1099511627776<g)=true:=Xt;rw [XB I,Xa4,Xad,Xad] at a;subst a;have o:Hid (Below w.heap.size w (wr.alloc (.cells #[.int .i64 g,.int .i64 at_,.slice x fs.length C] 59))):=hid (by rw [k.out];exact f.out);clear u G F I J D f k;go_wp2_with fail;go_ret;exact ⟨rfl,o.out⟩
    ·have X:decide (g<=z)=true:=Xt;rw [XB F,Xad,Xad,Xad] at a;subst a;have o:Hid (Below w.heap.size w (wr.alloc (.cells #[.int .i64 g,.int .i64 at_,.slice x fs.length C] 59))):=hid (by rw [k.out];exact f.out);clear u G F J D f k;go_wp2_with fail;go_ret;exact ⟨rfl,o.out⟩
   ·obtain rfl:i=l.length:=by omega
    have q1:decide ((l.length:Int)<(l.length:Int))=false:=by simp
    have q2:decide (l.length<l.length)=false:=by simp
    have m:=u.out;rw [ZtD] at m;subst m;clear u h;go_wp2_with fail;go_ret;exact ⟨rfl,A.out⟩
 ·have q0:decide ((l.length:Int)>65536)=true:=Xt;have R:decide (65536<l.length)=true:=Xw (by omega);have e:isS l=false:=by unfold isS;rw [XB O];rfl
  rw [e];clear e H O;go_enter func38,ntmps38;go_wp2_with fail;go_ret;exact ⟨rfl,Below.refl _ _⟩
end ST
namespace GM
open VM
open EM (Ev Fld Zao ZZ Zcf ZG ZaL Zdd)
open SM (Zo isS Zfy encS ZO Zk4 Zff Zas Zg8 Zv Zbx)
def Ziq (fs:List Fld):List Fld:=(fs.take 8).map fun f=>(f.1,f.2.take 300)
def Zgb (d:Zo):Zo:=(d.1,(d.2.1,Ziq d.2.2))
def ZkA (l:List Zo):List Zo:=(l.take 40).map Zgb
def ZfK (l:List Zo):List Zo:=ZkA (l.take 25)
theorem Zxv (l:List Zo):(ZfK l).length<=25:=by unfold ZfK ZkA;simp;omega
theorem Zxu {l:List Zo} (h:SM.ZaH l):SM.ZaH (ZfK l):=fun d a=>by
 unfold ZfK ZkA at a;obtain ⟨e,b,rfl⟩:=XY.1 a;exact h e (Xaq (Xaq b))
theorem ZnU:∀{fs:List Fld},(∀f∈fs,f.1.length<=32/\f.2.length<=300)->Zao fs<=332*fs.length
 | [],_=>by simp [Zao]
 | f::r,h=>by
   have h1:=h f (by simp);have h2:=ZnU (fs:=r) fun g a=>h g (Xa5 _ a);rw [ZiI,Xh];omega
theorem ZqX {l:List Zo} {m:Nat} (h:∀k (a:k<l.length),(Zk4 l k).length<=m):(ZO l 0 l.length).length<=m*l.length:=by
 unfold ZO;have:=Zgc (l:=List.range' 0 (l.length - 0)) (f:=Zk4 l) (m:=m) fun k a=>h k (by rw [List.mem_range'_1] at a;omega);rw [List.length_range'] at this;simpa using this
theorem Zqs (l:List Zo) (c:Nat):(Zas l 0 c).length<=20*c:=by
 unfold Zas
 have:=Zgc (l:=List.range' 0 c) (f:=Zg8 l) (m:=20) fun k _=>by
  have b1:=(Zc (SM.ZaK l (SM.Zbt l k)).toNat).2;have b2:=(Zc (ZO l (16*k) (SM.Zbt l k)).length).2;unfold Zg8;rw [Xd];omega
 rw [List.length_range'] at this;exact this
theorem Zr4 (l:List Zo):ZbA (ZfK l):=fun hs=>by
 have hl:=Zxv l
 have b:∀k (c:k<(ZfK l).length),(Zk4 (ZfK l) k).length<=2846:=fun k c=>by
  obtain ⟨j,d⟩:=ZaL.1 (Zfy hs c).2.2;have i:(ZfK l)[k]∈ZfK l:=XH c;unfold ZfK ZkA at i;obtain ⟨e,he,a⟩:=XY.1 i;change Zgb e=(ZfK l)[k] at a;rw [<- a] at j d;have h8:(Ziq e.2.2).length<=8:=by unfold Ziq;rw [XE,Xi];omega
  have m:=ZnU (fs:=Ziq e.2.2) fun f h=>by
   refine ⟨Zdd (d f h).1,?_⟩;unfold Ziq at h;obtain ⟨g,_,rfl⟩:=XY.1 h
   show (g.2.take 300).length<=300
   rw [Xi];omega
  have n:=(Zcf (Zgb e).2).1;have o:(Zgb e).2.2=Ziq e.2.2:=rfl;rw [o] at n;have b1:=(Zc (((ZfK l)[k]).1 - SM.ZaK (ZfK l) k - 1).toNat).2;rw [Zff c,Xd,<- a] at *;omega
 have j:=ZqX b;have d:=Zqs (ZfK l) (Zv (ZfK l).length);have h3:=(Zc (ZfK l).length).2;have h4:Zv (ZfK l).length<=2:=by unfold Zv;omega
 unfold SM.encS;simp only [Xd];omega
end GM
namespace EV
open RowKit MM EM
variable {B b g n cap k:Nat} {S S':Nat->Prop} {w w':World} {v:Value} {zs:List Int}
theorem Zb8:Elem Zcb prog 73 78 40:=⟨underlying73,by
 have h:(prog.info? 78).map (fun i=>(i.zero,i.size,i.bytes))=some (some (.agg #[.string ⟨#[]⟩,.slice none 0 0]),2,40):=by kernel_rfl
 obtain ⟨i,c,d,a,e⟩:=info_parts h;exact ⟨i,_,c,d,a,e,rfl⟩⟩
def Few (T:List Trm):Prop:=T.length<=100000/\∀t∈T,t.1.length<=10000/\t.2.length<=100000
theorem Zi8 (h:Zz Zbw 3 B S w v zs) (d:v.ownBlock=some b):Apt 78 B w b:=.inr fun c fr a=>by
 obtain ⟨_,_,c2,f2,e⟩:=h.cells d;rw [e] at a;simp only [Xv,Obj.cells.injEq] at a;exact absurd a.2.1 (by decide)
theorem Zlm {u:Value} {d:List Trm} (h:Zz Zbw 3 B S w v zs) (k:Zz Zcb 78 B S' w u d) (c:u.ownBlock=some g):v.ownBlock≠some g:=fun e=>by
 obtain ⟨_,_,c1,f1,f⟩:=h.cells e;obtain ⟨_,_,c2,f2,a⟩:=k.cells c;rw [f] at a;simp only [Xv,Obj.cells.injEq] at a;exact absurd a.2.1 (by decide)
theorem Zdk.weak {α:Type} {C:Codec α} {c:List α} (h:Zdk C S w v c) (i:∀b,b<w.heap.size->S b->S' b):Zdk C S' w v c:=by
 obtain ⟨p,cap,a,f,l,j,d,e⟩:=h;exact ⟨p,cap,a,f,l,j,d.keep (Kep.refl _ _) i,e⟩
theorem ZuX (w:World) (z:Int):ZD Zbw (fun b=>b=w.heap.size) (w.alloc (.cells #[.int .i64 z] 3)) (.slice (some ⟨w.heap.size,0,none⟩) 1 1) [z]:=by
 have:=Zju (C:=Zbw) (S:=fun _=>False) (e:=3) w [[.int .i64 z]] [z] (by unfold maxLen;simp) ⟨rfl,fun i hi a=>by obtain rfl:i=0:=(by simpa using hi);rfl⟩;exact this.weak fun b _ h=>h.resolve_left id
theorem Zja (w:World) (z:Int):Zbz (w.alloc (.cells #[.int .i64 z] 3)) w.heap.size:=⟨_,_,heap_alloc_new w _⟩
theorem Zqx (h:Zbz w b):Apt 78 B w b:=.inr fun c fr a=>by
 obtain ⟨c2,f2,d⟩:=h;rw [d] at a;simp only [Xv,Obj.cells.injEq] at a;exact absurd a.2.1 (by decide)
theorem Zbz.kep (h:Zbz w b) (c:Kep S w w') (d:S b):Zbz w' b:=by
 obtain ⟨c2,e,a⟩:=h;exact ⟨c2,e,(c.block b (Xo.1 a).1 d).trans a⟩
theorem Zbz.alloc (h:Zbz w b) (o:Obj):Zbz (w.alloc o) b:=h.kep (Zr (fun _=>True) w o) trivial
theorem Zlg (a:World) (p:Int) (o:Obj):∀b,b<((a.alloc (.cells #[.int .i64 p] 3)).alloc o).heap.size->((S b/\b<B)\/b=a.heap.size)->Apt 78 B ((a.alloc (.cells #[.int .i64 p] 3)).alloc o) b:=fun b _ h=>by
 rcases h with h|h
 ·exact .inl h.2
 ·rw [h];exact Zqx ((Zja a p).alloc o)
theorem Zzq {off:Nat} {T:List Trm} (h:ZD Zcb S w (.slice (some ⟨b,off,none⟩) n cap) T) (a:k<=n) (hc:k<cap):ZD Zcb S w (.slice (some ⟨b,off+k*2,none⟩) (n - k) (cap - k)) (T.drop k):=by
 have:=h.drop k a;rw [Xa (by omega),Xai,ZY] at this;exact this
theorem Zzr (S:Nat->Prop) (W:World) (s:Xu) (p:Int):Zcb.on (fun b=>S b\/b=W.heap.size) (W.alloc (.cells #[.int .i64 p] 3)) [.string ⟨s.toArray⟩,.slice (some ⟨W.heap.size,0,none⟩) 1 1] (s,[p]) :=
 Znb.2 ⟨_,rfl,(ZuX W p).weak fun b _ a=>.inr a⟩
theorem Zm2 (S:Nat->Prop) (W:World) (s:Xu) (p:Int):Zdk Zcb (fun b=>S b\/b=W.heap.size) ((W.alloc (.cells #[.int .i64 p] 3)).alloc (.cells #[.string ⟨s.toArray⟩,.slice (some ⟨W.heap.size,0,none⟩) 1 1] 78)) (.slice (some ⟨W.heap.size+1,0,none⟩) 1 1) [(s,[p])]:=by
 have:=Zby 78 (Zzr S W s p);rw [World.size_alloc] at this;exact this
theorem Zli (h:Zbz w g):∀b,b<w.heap.size->((S b/\b<B)\/b=g)->Apt 78 B w b:=fun b _ a=>by
 rcases a with a|rfl
 ·exact .inl a.2
 ·exact Zqx h
def ZBO (S:Nat->Prop) (T:List Trm) (w:World) (e:Ending) (w':World):Prop:=∃u,e=.returned u/\ZD Zcb (fun b=>S b\/w.heap.size<=b) w' u T/\Below w.heap.size w w'
def RSB {α:Type} (C:Codec α) (S:Nat->Prop) (B:Nat) (w:World) (v:Value) (es:List α):Prop:=ZD C (fun b=>S b/\b<B) w v es
theorem RSB.below {α:Type} {C:Codec α} {es:List α} (h:RSB C S B w v es) (a:Below B w w'):RSB C S B w' v es :=
 ZD.keep h ⟨a.os,a.tape,a.output,a.size,fun k _ c=>a.block k c.2⟩ fun _ _ h=>h
theorem ZCx {α:Type} {C:Codec α} {es:List α} (h:ZD C S w v es):RSB C S w.heap.size w v es:=ZD.weak h fun _ a hs=>⟨hs,a⟩
theorem ZhF {X:Nat->Prop} {T:List Trm} (h:Zz Zcb 78 B (fun b=>(S b/\b<B)\/X b) w v T) (d:∀b,X b->B<=b):ZD Zcb (fun b=>S b\/B<=b) w v T :=
 h.ron (fun g a=>.inr (h.cells a).1) (fun b _ c=>c.elim (fun h=>.inl h.1) fun h=>.inr (d b h))
theorem ZoN {a:Addr} {T:List Trm} (h:ZD Zcb S w (.slice (some a) n cap) T) (c:k<=n) (hc:k<cap):ZD Zcb S w (.slice (some (a.add (k*2))) (n - k) (cap - k)) (T.drop k):=by
 have:=h.drop k c;rw [Xa (by omega),Xai] at this;exact this
theorem Zv1 {a:Addr} {T:List Trm} (h:ZD Zcb S w (.slice (some a) k cap) T) (c:k<cap):ZD Zcb S w (.slice (some (a.add (k*2))) 0 (cap - k)) (T.drop k):=by
 have:=ZoN h (Xc k) c;rw [Xas] at this;exact this
theorem ZoM {a:Option Addr} {T:List Trm} (h:ZD Zcb S w (.slice a n n) T):ZD Zcb S w (.slice a 0 0) (T.drop n):=by
 have:=h.drop n (Xc _);rw [Xe rfl,Xas] at this;exact this
theorem Zvs (S:Nat->Prop) (s:Xu) (p:Int) (w:World) (hs:s.length<=10000) :
  Calls prog 72 #[.slice none 0 0,.string ⟨s.toArray⟩,.int .i64 p] w (ZBO S (Zaj [] s p) w):=by
 obtain ⟨n,hn⟩:∃n,n=0:=⟨_,rfl⟩;obtain ⟨T,m⟩:∃T:List Trm,T=[]:=⟨_,rfl⟩;go_enter func72,ntmps72;go_wp2_with fail
 go_loopw [7] (fun iv wr=>iv=.int .i64 0/\Hid (Below w.heap.size w wr)) (fun iv _=>1)
 case atStart=>exact ⟨rfl,hid (Below.refl _ _)⟩
 case round =>
  obtain ⟨rfl,HB⟩:=hrel;have A:=HB.out.size;have R:=HB;have q:=hid (Zz.lit0 (C:=Zcb) 78 (fun b=>S b/\b<w.heap.size) wr A);have z:Hid (ZD Zcb (fun b=>S b/\b<w.heap.size) (wr.alloc (.cells #[] 78)) (.slice none 0 0) (T.take n)):=hid (by rw [m,List.take_nil];exact ZD.nil_ _ _);have D:Hid ((T.take n).length=0):=hid (by rw [m];simp);have j:Hid ((T.take n++[(s,[p])]).length=1):=hid (by rw [m];simp);have J:Hid (T.take n++[(s,[p])]++T.drop n=Zaj [] s p):=hid (by rw [m];simp [Zaj]);have O:=hid (fun W=>Zm2 (fun b=>S b/\b<w.heap.size) W s p);have ab:T.length=0:=by rw [m];rfl
  have V:=hid (fun W (hW:Below w.heap.size w W)=>(by rw [m,List.drop_nil];exact ZD.nil_ _ _:ZD Zcb (fun b=>S b/\b<w.heap.size) W (.slice none 0 0) (T.drop n)));go_wp2_with (first|(at_builtin;go_loud (refine Zf Zb8 rfl _ _ rfl w.heap.size _ [] rfl q.out (fun b _ r=>.inl r.2) _ (T.take n) rfl (ZD.src z.out) (by simp only [Xd,Xi,Xj,Xm,Xh];unfold maxLen;omega) (by simp only [Xd,Xi,Xj,Xm,Xh];omega) (by simp;omega) ?_;intro vo l d F M;rw [Xz] at d;obtain ⟨po,co,rfl,_⟩:=d.any.shape;rw [D.out] at d;try rw [D.out];have G:=hid d;have c:=(R.out.alloc A (.cells #[] 78)).trans F;have X:=hid c;have o:=c.size;skip;clear d F M c q z))|(at_builtin;go_loud (refine Zf Zb8 (S:=fun b=>(S b/\b<w.heap.size)\/b=l.heap.size) rfl _ _ rfl w.heap.size _ (T.take n) rfl (((G.out.alloc (.cells #[.int .i64 p] 3)).weak fun b _ r=>.inl r).alloc _) (Zlg (S:=S) (B:=w.heap.size) l p _) _ [(s,[p])] rfl (O.out l) (by simp only [Xd,Xi,Xj,Xm,Xh];unfold maxLen;omega) (by simp only [Xd,Xi,Xj,Xm,Xh];omega) (by simp;omega) ?_;intro v7 Y i y E;obtain ⟨p7,c7,rfl,_⟩:=i.any.shape;rw [j.out] at i;try rw [j.out];have aa:=hid i;have a:Below w.heap.size w Y:=((X.out.alloc o _).alloc (by simp;omega) _).trans y;have Z:=hid a;have H:=a.size;have I:=hid (V.out Y a);have t:Zbz Y l.heap.size:=((Zja l p).alloc _).kep E (fun e=>absurd (G.out.cells e).2.1 (Xbl _));have u:=hid (Zli (S:=S) (B:=w.heap.size) t);clear i y E a t))|(at_builtin;go_loud (refine Zf Zb8 (S:=fun b=>(S b/\b<w.heap.size)\/b=l.heap.size) rfl _ _ rfl w.heap.size _ _ rfl aa.out u.out _ (T.drop n) rfl (Zdk.weak (ZD.src I.out) fun b _ r=>.inl r) (by simp only [Xd,Xi,Xj,Xm,Xh];unfold maxLen;omega) (by simp only [Xd,Xi,Xj,Xm,Xh];omega) H ?_;intro v9 w9 f x N;rw [J.out] at f;obtain ⟨p9,c9,rfl,_⟩:=f.any.shape;have U:=hid f;have L:=hid (Z.out.trans x);clear f x N)))
  go_ret;exact ⟨_,rfl,ZhF U.out (fun b h=>by subst h;exact o),L.out⟩
theorem ZBi (S:Nat->Prop) (u:Value) (T:List Trm) (s:Xu) (p:Int) (w:World) (hu:ZD Zcb S w u T) (hF:Few T) (hs:s.length<=10000) :
  Calls prog 72 #[u,.string ⟨s.toArray⟩,.int .i64 p] w (ZBO S (Zaj T s p) w):=by
 obtain ⟨pu,cu,rfl,aY,a0,aR⟩:=hu.shape;unfold maxLen at a0;cases pu with
 | none =>
   have h0:=aR rfl;subst h0;obtain rfl:T=[]:=XO (by omega);exact Zvs S s p w hs
 | some ad =>
 have HU:=hid (ZCx hu);have aX:=hid hF.2;have aI:=hF.1;have H0:Hid (∀j (hj:j<T.length),j<0->Zj T[j].1 s=true):=hid fun j hj h=>absurd h (by omega);obtain ⟨n,hn⟩:=Xn T.length;have HN:=hid hn;rw [hn] at aY aI HU ⊢;clear hu hF aR hn;go_enter func72,ntmps72;go_wp2_with fail
 go_loopw [7] (fun iv wr=>∃k:Nat,k<=n/\iv=.int .i64 k/\Hid (∀j (hj:j<T.length),j<k->Zj T[j].1 s=true)/\Hid (Below w.heap.size w wr)) (fun iv _=>n - (intOf iv).toNat)
 case atStart=>exact ⟨0,by omega,rfl,H0,hid (Below.refl _ _)⟩
 case round =>
  obtain ⟨k,hk,rfl,HA,HB⟩:=hrel;clear H0;have a3:=HB.out.size
  by_cases ar:k<n
  ·have q1:decide ((k:Int)<(n:Int))=true:=Xt;have q2:decide (k<n)=true:=Xt;have aB:k<T.length:=by rw [HN.out];exact ar
   obtain ⟨b,off,v,aT,a2,aP,c1,c2,hv⟩:=Zna (HU.out.below HB.out) aB;obtain rfl:=XP aT;have a1:=aX.out T[k] (XH aB);obtain ⟨t,ht⟩:=Xn (T[k]);rw [ht] at c1 hv a1;have HL:=hid (ZvB t.1 s wr (by omega) (by omega));have HT:Hid (∀hj:k<T.length,T[k]=t):=hid fun _=>ht;have aC:=hid ar;have ao:=hid aB;clear ht ar aB aT;cases hless:Zj t.1 s with
   | true =>
     rw [hless] at HL
     have aU:Hid (∀j (hj:j<T.length),j<k+1->Zj T[j].1 s=true):=hid fun j hj a4=>by
      by_cases e:j=k
      ·subst e;rw [HT.out hj];exact hless
      ·exact HA.out j hj (by omega)
     clear HA hless hv c2;go_wp2_with fail;refine HL.out.mono ?_;rintro e w2 ⟨rfl,m,rfl⟩;go_wp2_with fail;have ar:=aC.out;go_roundw
     case rel=>exact ⟨k+1,by omega,by go_num,aU,hid (MM.below_drewN HB.out _)⟩
     case measure=>simp [intOf];omega
   | false =>
     rw [hless] at HL;have aQ:=hid hless;have HV:=hid hv;have aO:∀m,Below w.heap.size w (wr.drewN m):=fun m=>MM.below_drewN HB.out m;have aZ:=hid aO;clear hless aO hv;obtain ⟨pv,cv,rfl,_,a5,_⟩:=HV.out.shape;go_wp2_with fail;refine HL.out.mono ?_;rintro e w2 ⟨rfl,m,hm⟩;have aw:=aZ.out m;have d1:w2.cell? ⟨b,off+k*2,none⟩=some (.string ⟨t.1.toArray⟩):=by rw [hm];exact c1
     have d2:w2.cell? ⟨b,off+k*2+1,none⟩=some (.slice pv t.2.length cv):=by rw [hm];exact c2
     have aM:RSB Zbw S w.heap.size w2 (.slice pv t.2.length cv) t.2:=by rw [hm];exact (show RSB Zbw S w.heap.size wr (.slice pv t.2.length cv) t.2 from HV.out).below (MM.below_drewN (Below.refl _ wr) m)
     rw [<- hm] at aw;have aq:=hid aw;have R:=aw.size;have J:=hid (Zz.lit0 (C:=Zcb) 78 (fun b=>S b/\b<w.heap.size) w2 R);have aF:Below w.heap.size w (w2.alloc (.cells #[] 78)):=aw.alloc R _;have U:=hid ((HU.out.below aF).take k hk);have am:Hid (∀W,Below w.heap.size (w2.alloc (.cells #[] 78)) W->W.cell? ⟨b,off+k*2,none⟩=some (.string ⟨t.1.toArray⟩)):=hid fun W hW=>(hW.cell (p:=⟨b,off+k*2,none⟩) aP.2).trans ((((Below.refl w2.heap.size w2).alloc (Xc _) (.cells #[] 78)).cell (p:=⟨b,off+k*2,none⟩) (show b<w2.heap.size by omega)).trans d1);have aA:Hid (∀W,Below w.heap.size (w2.alloc (.cells #[] 78)) W->W.cell? ⟨b,off+k*2+1,none⟩=some (.slice pv t.2.length cv)):=hid fun W hW=>(hW.cell (p:=⟨b,off+k*2+1,none⟩) aP.2).trans ((((Below.refl w2.heap.size w2).alloc (Xc _) (.cells #[] 78)).cell (p:=⟨b,off+k*2+1,none⟩) (show b<w2.heap.size by omega)).trans d2);have aN:Hid (∀W,Below w.heap.size (w2.alloc (.cells #[] 78)) W->RSB Zbw S w.heap.size W (.slice pv t.2.length cv) t.2):=hid fun W hW=>(aM.below ((Below.refl _ w2).alloc R _)).below hW;clear hm aw c1 c2 aF HL d1 d2 aM;have aV:k<cu:=by have:=aC.out;omega
     have G:Hid ((T.take k).length=k):=hid (by rw [Xi,HN.out];omega);have aS:T.length<=100000:=by rw [HN.out];exact aI
     by_cases ap:t.1=s
     ·have t2:(t.1 == s)=true:=by rw [Xan];exact ap
      have z:Zaj T s p=T.take k++(s,(T[k]'ao.out).2++[p])::T.drop (k+1):=ZiR p ao.out HA.out (by rw [HT.out ao.out];exact ap);rw [HT.out ao.out] at z;have an:Hid (T.take k++[(s,t.2++[p])]++T.drop (k+1)=Zaj T s p):=hid (by rw [z];simp);have r:Hid ((T.take k++[(s,t.2++[p])]).length=k+1):=hid (by rw [Xd,G.out];rfl);have aE:Hid ((t.2++[p]).length=t.2.length+1):=hid (by rw [Xd];rfl);clear z ap HA aQ
      by_cases aL:k+1<cu
      ·have aW:=aC.out;have aj:=hid (fun W (hW:Below w.heap.size w W)=>ZoN (HU.out.below hW) (show k+1<=n from aW) aL);go_wp2_with (first|(at_builtin;go_loud (refine Zf Zb8 rfl _ _ rfl w.heap.size _ [] rfl J.out (fun b _ l=>.inl l.2) _ (T.take k) rfl (ZD.src U.out) (by simp only [Xd,Xi,Xj,Xm,Xh];unfold maxLen;omega) (by simp only [Xd,Xi,Xj,Xm,Xh];omega) (by simp;omega) ?_;intro vo I c q ae;rw [Xz] at c;obtain ⟨po,co,rfl,_⟩:=c.any.shape;rw [G.out] at c;try rw [G.out];have y:=hid c;have f:=(aq.out.alloc R (.cells #[] 78)).trans q;have aa:=hid f;have x:=f.size;have e1:=am.out _ q;have e2:=aA.out _ (q.alloc x (.cells #[] 3));have ax:=hid (aN.out _ (q.alloc x (.cells #[] 3)));clear c q ae f J U))|(at_builtin;go_loud (refine Zf Zqv (S:=fun b=>S b/\b<w.heap.size) rfl _ _ rfl w.heap.size _ [] rfl (Zz.lit0 (C:=Zbw) 3 (fun b=>S b/\b<w.heap.size) I x) (fun b _ l=>.inl l.2) _ t.2 rfl (ZD.src ax.out) (by simp only [Xd,Xi,Xj,Xm,Xh];unfold maxLen;omega) (by simp only [Xd,Xi,Xj,Xm,Xh];omega) (by simp;omega) ?_;intro v6 w6 al au av;rw [Xz] at al;have Y:=hid al;have L:=hid ((y.out.alloc (.cells #[] 3)).keep av (fun b _ hS e=>by have e:I.heap.size=b:=XP e;have hS:b<w.heap.size:=hS.2;omega) (fun g hg e=>by have h1:=(y.out.cells hg).2.1;have e:I.heap.size=g:=XP e;omega));have M:=(aa.out.alloc x (.cells #[] 3)).trans au;have aK:=hid M;have aJ:=M.size;clear al au av M y ax))|(at_builtin;go_loud (refine Zf Zqv (S:=fun b=>S b/\b<w.heap.size) rfl _ _ rfl w.heap.size _ t.2 rfl (Y.out.alloc _) (fun b _ l=>.inl l.2) _ [p] rfl (Zby (C:=Zbw) (d:=p) 3 (vs:=[.int .i64 p]) rfl) (by simp only [Xd,Xi,Xj,Xm,Xh];unfold maxLen;omega) (by simp only [Xd,Xi,Xj,Xm,Xh];omega) (by simp;omega) ?_;intro v8 w8 Z az ay;obtain ⟨p8,c8,rfl,_⟩:=Z.any.shape;rw [aE.out] at Z;try rw [aE.out];have O:=hid Z;have F:=hid ((L.out.alloc (.cells #[.int .i64 p] 3)).keep ay (fun b _ hS e=>by have:=(Y.out.cells e).1;omega) (fun g hg e=>Zlm Y.out L.out hg e));have N:=(aK.out.alloc aJ (.cells #[.int .i64 p] 3)).trans az;have aH:=hid N;have aG:=N.size;clear Z az ay N L Y))|(at_builtin;go_loud (refine Zf Zb8 (S:=fun b=>(S b/\b<w.heap.size)\/(Value.slice p8 (t.2.length+1) c8).ownBlock=some b) rfl _ _ rfl w.heap.size _ (T.take k) rfl ((F.out.weak fun b _ l=>.inl l).alloc _) (fun b _ l=>l.elim (fun h=>.inl h.2) fun h=>Zi8 (O.out.alloc _) h) _ [(s,t.2++[p])] rfl (Zby (C:=Zcb) (d:=(s,t.2++[p])) 78 (vs:=[.string ⟨s.toArray⟩,.slice p8 (t.2.length+1) c8]) (Znb.2 ⟨.slice p8 (t.2.length+1) c8,rfl,O.out.ron (fun g hg=>.inr hg) (fun b _ l=>.inl l)⟩)) (by simp only [Xd,Xi,Xj,Xm,Xh];unfold maxLen;omega) (by simp only [Xd,Xi,Xj,Xm,Xh];omega) (by simp;omega) ?_;intro v7 V i A H;obtain ⟨p7,c7,rfl,_⟩:=i.any.shape;rw [r.out] at i;try rw [r.out];have ah:=hid i;have a:Below w.heap.size w V:=(aH.out.alloc aG _).trans A;have ai:=hid a;have X:=a.size;have ac:=hid (aj.out V a);have E:=hid (show ∀b,b<V.heap.size->((S b/\b<w.heap.size)\/(Value.slice p8 (t.2.length+1) c8).ownBlock=some b)->Apt 78 w.heap.size V b from fun b _ l=>l.elim (fun h=>.inl h.2) fun h=>Zi8 ((O.out.alloc _).keep H (fun b _ hS e=>by have:=(F.out.cells e).1;omega) (fun g hg e=>Zlm O.out F.out e hg)) h);clear i A H a F))|(at_builtin;go_loud (refine Zf Zb8 (S:=fun b=>(S b/\b<w.heap.size)\/(Value.slice p8 (t.2.length+1) c8).ownBlock=some b) rfl _ _ rfl w.heap.size _ _ rfl ah.out E.out _ (T.drop (k+1)) rfl (Zdk.weak (ZD.src ac.out) fun b _ l=>.inl l) (by simp only [Xd,Xi,Xj,Xm,Xh];unfold maxLen;omega) (by simp only [Xd,Xi,Xj,Xm,Xh];omega) X ?_;intro v9 w9 o D af;rw [an.out] at o;obtain ⟨p9,c9,rfl,_⟩:=o.any.shape;have ag:=hid o;have ab:=hid (ai.out.trans D);clear o D af)))
       go_ret;exact ⟨_,rfl,ZhF ag.out (fun b h=>(O.out.cells h).1),ab.out⟩
      ·obtain rfl:cu=k+1:=by omega
       obtain rfl:n=k+1:=by have:=aC.out;omega
       have aj:=hid (fun W (hW:Below w.heap.size w W)=>ZoM (HU.out.below hW));go_wp2_with (first|(at_builtin;go_loud (refine Zf Zb8 rfl _ _ rfl w.heap.size _ [] rfl J.out (fun b _ l=>.inl l.2) _ (T.take k) rfl (ZD.src U.out) (by simp only [Xd,Xi,Xj,Xm,Xh];unfold maxLen;omega) (by simp only [Xd,Xi,Xj,Xm,Xh];omega) (by simp;omega) ?_;intro vo I c q ae;rw [Xz] at c;obtain ⟨po,co,rfl,_⟩:=c.any.shape;rw [G.out] at c;try rw [G.out];have y:=hid c;have f:=(aq.out.alloc R (.cells #[] 78)).trans q;have aa:=hid f;have x:=f.size;have e1:=am.out _ q;have e2:=aA.out _ (q.alloc x (.cells #[] 3));have ax:=hid (aN.out _ (q.alloc x (.cells #[] 3)));clear c q ae f J U))|(at_builtin;go_loud (refine Zf Zqv (S:=fun b=>S b/\b<w.heap.size) rfl _ _ rfl w.heap.size _ [] rfl (Zz.lit0 (C:=Zbw) 3 (fun b=>S b/\b<w.heap.size) I x) (fun b _ l=>.inl l.2) _ t.2 rfl (ZD.src ax.out) (by simp only [Xd,Xi,Xj,Xm,Xh];unfold maxLen;omega) (by simp only [Xd,Xi,Xj,Xm,Xh];omega) (by simp;omega) ?_;intro v6 w6 al au av;rw [Xz] at al;have Y:=hid al;have L:=hid ((y.out.alloc (.cells #[] 3)).keep av (fun b _ hS e=>by have e:I.heap.size=b:=XP e;have hS:b<w.heap.size:=hS.2;omega) (fun g hg e=>by have h1:=(y.out.cells hg).2.1;have e:I.heap.size=g:=XP e;omega));have M:=(aa.out.alloc x (.cells #[] 3)).trans au;have aK:=hid M;have aJ:=M.size;clear al au av M y ax))|(at_builtin;go_loud (refine Zf Zqv (S:=fun b=>S b/\b<w.heap.size) rfl _ _ rfl w.heap.size _ t.2 rfl (Y.out.alloc _) (fun b _ l=>.inl l.2) _ [p] rfl (Zby (C:=Zbw) (d:=p) 3 (vs:=[.int .i64 p]) rfl) (by simp only [Xd,Xi,Xj,Xm,Xh];unfold maxLen;omega) (by simp only [Xd,Xi,Xj,Xm,Xh];omega) (by simp;omega) ?_;intro v8 w8 Z az ay;obtain ⟨p8,c8,rfl,_⟩:=Z.any.shape;rw [aE.out] at Z;try rw [aE.out];have O:=hid Z;have F:=hid ((L.out.alloc (.cells #[.int .i64 p] 3)).keep ay (fun b _ hS e=>by have:=(Y.out.cells e).1;omega) (fun g hg e=>Zlm Y.out L.out hg e));have N:=(aK.out.alloc aJ (.cells #[.int .i64 p] 3)).trans az;have aH:=hid N;have aG:=N.size;clear Z az ay N L Y))|(at_builtin;go_loud (refine Zf Zb8 (S:=fun b=>(S b/\b<w.heap.size)\/(Value.slice p8 (t.2.length+1) c8).ownBlock=some b) rfl _ _ rfl w.heap.size _ (T.take k) rfl ((F.out.weak fun b _ l=>.inl l).alloc _) (fun b _ l=>l.elim (fun h=>.inl h.2) fun h=>Zi8 (O.out.alloc _) h) _ [(s,t.2++[p])] rfl (Zby (C:=Zcb) (d:=(s,t.2++[p])) 78 (vs:=[.string ⟨s.toArray⟩,.slice p8 (t.2.length+1) c8]) (Znb.2 ⟨.slice p8 (t.2.length+1) c8,rfl,O.out.ron (fun g hg=>.inr hg) (fun b _ l=>.inl l)⟩)) (by simp only [Xd,Xi,Xj,Xm,Xh];unfold maxLen;omega) (by simp only [Xd,Xi,Xj,Xm,Xh];omega) (by simp;omega) ?_;intro v7 V i A H;obtain ⟨p7,c7,rfl,_⟩:=i.any.shape;rw [r.out] at i;try rw [r.out];have ah:=hid i;have a:Below w.heap.size w V:=(aH.out.alloc aG _).trans A;have ai:=hid a;have X:=a.size;have ac:=hid (aj.out V a);have E:=hid (show ∀b,b<V.heap.size->((S b/\b<w.heap.size)\/(Value.slice p8 (t.2.length+1) c8).ownBlock=some b)->Apt 78 w.heap.size V b from fun b _ l=>l.elim (fun h=>.inl h.2) fun h=>Zi8 ((O.out.alloc _).keep H (fun b _ hS e=>by have:=(F.out.cells e).1;omega) (fun g hg e=>Zlm O.out F.out e hg)) h);clear i A H a F))|(at_builtin;go_loud (refine Zf Zb8 (S:=fun b=>(S b/\b<w.heap.size)\/(Value.slice p8 (t.2.length+1) c8).ownBlock=some b) rfl _ _ rfl w.heap.size _ _ rfl ah.out E.out _ (T.drop (k+1)) rfl (Zdk.weak (ZD.src ac.out) fun b _ l=>.inl l) (by simp only [Xd,Xi,Xj,Xm,Xh];unfold maxLen;omega) (by simp only [Xd,Xi,Xj,Xm,Xh];omega) X ?_;intro v9 w9 o D af;rw [an.out] at o;obtain ⟨p9,c9,rfl,_⟩:=o.any.shape;have ag:=hid o;have ab:=hid (ai.out.trans D);clear o D af)))
       go_ret;exact ⟨_,rfl,ZhF ag.out (fun b h=>(O.out.cells h).1),ab.out⟩
     ·have t2:(t.1 == s)=false:=by rw [Xab];exact ap
      have z:Zaj T s p=T.take k++(s,[p])::T.drop k:=Zer p (by rw [HN.out];exact hk) HA.out fun hj=>by rw [HT.out hj];exact ⟨aQ.out,ap⟩
      have an:Hid (T.take k++[(s,[p])]++T.drop k=Zaj T s p):=hid (by rw [z];simp);clear ap z;have r:Hid ((T.take k++[(s,[p])]).length=k+1):=hid (by rw [Xd,G.out];rfl);have aD:=hid (fun W=>Zm2 (fun b=>S b/\b<w.heap.size) W s p);have aj:=hid (fun W (hW:Below w.heap.size w W)=>Zzq (HU.out.below hW) hk aV);go_wp2_with (first|(at_builtin;go_loud (refine Zf Zb8 rfl _ _ rfl w.heap.size _ [] rfl J.out (fun b _ l=>.inl l.2) _ (T.take k) rfl (ZD.src U.out) (by simp only [Xd,Xi,Xj,Xm,Xh];unfold maxLen;omega) (by simp only [Xd,Xi,Xj,Xm,Xh];omega) (by simp;omega) ?_;intro vo I c q ae;rw [Xz] at c;obtain ⟨po,co,rfl,_⟩:=c.any.shape;rw [G.out] at c;try rw [G.out];have y:=hid c;have f:=(aq.out.alloc R (.cells #[] 78)).trans q;have aa:=hid f;have x:=f.size;have e1:=am.out _ q;clear c q ae f J U))|(at_builtin;go_loud (refine Zf Zb8 (S:=fun b=>(S b/\b<w.heap.size)\/b=I.heap.size) rfl _ _ rfl w.heap.size _ (T.take k) rfl (((y.out.alloc (.cells #[.int .i64 p] 3)).weak fun b _ l=>.inl l).alloc _) (Zlg (S:=S) (B:=w.heap.size) I p _) _ [(s,[p])] rfl (aD.out I) (by simp only [Xd,Xi,Xj,Xm,Xh];unfold maxLen;omega) (by simp only [Xd,Xi,Xj,Xm,Xh];omega) (by simp;omega) ?_;intro v7 V i A H;obtain ⟨p7,c7,rfl,_⟩:=i.any.shape;rw [r.out] at i;try rw [r.out];have ah:=hid i;have a:Below w.heap.size w V:=((aa.out.alloc x _).alloc (by simp;omega) _).trans A;have ai:=hid a;have X:=a.size;have ac:=hid (aj.out V a);have ak:Zbz V I.heap.size:=((Zja I p).alloc _).kep H (fun e=>absurd (y.out.cells e).2.1 (Xbl _));have E:=hid (Zli (S:=S) (B:=w.heap.size) ak);clear i A H a ak))|(at_builtin;go_loud (refine Zf Zb8 (S:=fun b=>(S b/\b<w.heap.size)\/b=I.heap.size) rfl _ _ rfl w.heap.size _ _ rfl ah.out E.out _ (T.drop k) rfl (Zdk.weak (ZD.src ac.out) fun b _ l=>.inl l) (by simp only [Xd,Xi,Xj,Xm,Xh];unfold maxLen;omega) (by simp only [Xd,Xi,Xj,Xm,Xh];omega) X ?_;intro v9 w9 o D af;rw [an.out] at o;obtain ⟨p9,c9,rfl,_⟩:=o.any.shape;have ag:=hid o;have ab:=hid (ai.out.trans D);clear o D af)))
      go_ret;exact ⟨_,rfl,ZhF ag.out (fun b h=>by subst h;exact x),ab.out⟩
  ·obtain rfl:k=n:=by omega
   have q1:decide ((k:Int)<(k:Int))=false:=by simp
   have q2:decide (k<k)=false:=by simp
   have aS:T.length<=100000:=by rw [HN.out];exact aI
   have z:Zaj T s p=T.take k++(s,[p])::T.drop k:=Zer p (by rw [HN.out];exact Xc _) HA.out fun hj=>absurd hj (by rw [HN.out];omega);have an:Hid (T.take k++[(s,[p])]++T.drop k=Zaj T s p):=hid (by rw [z];simp);have R:=HB.out.size;have aq:=HB;have J:=hid (Zz.lit0 (C:=Zcb) 78 (fun b=>S b/\b<w.heap.size) wr R);have U:=hid ((HU.out.below (HB.out.alloc R (.cells #[] 78))).take k (Xc _));clear z ar HA;have G:Hid ((T.take k).length=k):=hid (by rw [Xi,HN.out];omega);have r:Hid ((T.take k++[(s,[p])]).length=k+1):=hid (by rw [Xd,G.out];rfl);have aD:=hid (fun W=>Zm2 (fun b=>S b/\b<w.heap.size) W s p)
   by_cases aL:k<cu
   ·skip
    have aj:=hid (fun W (hW:Below w.heap.size w W)=>Zv1 (HU.out.below hW) aL);go_wp2_with (first|(at_builtin;go_loud (refine Zf Zb8 rfl _ _ rfl w.heap.size _ [] rfl J.out (fun b _ l=>.inl l.2) _ (T.take k) rfl (ZD.src U.out) (by simp only [Xd,Xi,Xj,Xm,Xh];unfold maxLen;omega) (by simp only [Xd,Xi,Xj,Xm,Xh];omega) (by simp;omega) ?_;intro vo I c q ae;rw [Xz] at c;obtain ⟨po,co,rfl,_⟩:=c.any.shape;rw [G.out] at c;try rw [G.out];have y:=hid c;have f:=(aq.out.alloc R (.cells #[] 78)).trans q;have aa:=hid f;have x:=f.size;skip;clear c q ae f J U))|(at_builtin;go_loud (refine Zf Zb8 (S:=fun b=>(S b/\b<w.heap.size)\/b=I.heap.size) rfl _ _ rfl w.heap.size _ (T.take k) rfl (((y.out.alloc (.cells #[.int .i64 p] 3)).weak fun b _ l=>.inl l).alloc _) (Zlg (S:=S) (B:=w.heap.size) I p _) _ [(s,[p])] rfl (aD.out I) (by simp only [Xd,Xi,Xj,Xm,Xh];unfold maxLen;omega) (by simp only [Xd,Xi,Xj,Xm,Xh];omega) (by simp;omega) ?_;intro v7 V i A H;obtain ⟨p7,c7,rfl,_⟩:=i.any.shape;rw [r.out] at i;try rw [r.out];have ah:=hid i;have a:Below w.heap.size w V:=((aa.out.alloc x _).alloc (by simp;omega) _).trans A;have ai:=hid a;have X:=a.size;have ac:=hid (aj.out V a);have ak:Zbz V I.heap.size:=((Zja I p).alloc _).kep H (fun e=>absurd (y.out.cells e).2.1 (Xbl _));have E:=hid (Zli (S:=S) (B:=w.heap.size) ak);clear i A H a ak))|(at_builtin;go_loud (refine Zf Zb8 (S:=fun b=>(S b/\b<w.heap.size)\/b=I.heap.size) rfl _ _ rfl w.heap.size _ _ rfl ah.out E.out _ (T.drop k) rfl (Zdk.weak (ZD.src ac.out) fun b _ l=>.inl l) (by simp only [Xd,Xi,Xj,Xm,Xh];unfold maxLen;omega) (by simp only [Xd,Xi,Xj,Xm,Xh];omega) X ?_;intro v9 w9 o D af;rw [an.out] at o;obtain ⟨p9,c9,rfl,_⟩:=o.any.shape;have ag:=hid o;have ab:=hid (ai.out.trans D);clear o D af)))
    go_ret;exact ⟨_,rfl,ZhF ag.out (fun b h=>by subst h;exact x),ab.out⟩
   ·obtain rfl:cu=k:=by omega
    have aj:=hid (fun W (hW:Below w.heap.size w W)=>ZoM (HU.out.below hW));go_wp2_with (first|(at_builtin;go_loud (refine Zf Zb8 rfl _ _ rfl w.heap.size _ [] rfl J.out (fun b _ l=>.inl l.2) _ (T.take cu) rfl (ZD.src U.out) (by simp only [Xd,Xi,Xj,Xm,Xh];unfold maxLen;omega) (by simp only [Xd,Xi,Xj,Xm,Xh];omega) (by simp;omega) ?_;intro vo I c q ae;rw [Xz] at c;obtain ⟨po,co,rfl,_⟩:=c.any.shape;rw [G.out] at c;try rw [G.out];have y:=hid c;have f:=(aq.out.alloc R (.cells #[] 78)).trans q;have aa:=hid f;have x:=f.size;skip;clear c q ae f J U))|(at_builtin;go_loud (refine Zf Zb8 (S:=fun b=>(S b/\b<w.heap.size)\/b=I.heap.size) rfl _ _ rfl w.heap.size _ (T.take cu) rfl (((y.out.alloc (.cells #[.int .i64 p] 3)).weak fun b _ l=>.inl l).alloc _) (Zlg (S:=S) (B:=w.heap.size) I p _) _ [(s,[p])] rfl (aD.out I) (by simp only [Xd,Xi,Xj,Xm,Xh];unfold maxLen;omega) (by simp only [Xd,Xi,Xj,Xm,Xh];omega) (by simp;omega) ?_;intro v7 V i A H;obtain ⟨p7,c7,rfl,_⟩:=i.any.shape;rw [r.out] at i;try rw [r.out];have ah:=hid i;have a:Below w.heap.size w V:=((aa.out.alloc x _).alloc (by simp;omega) _).trans A;have ai:=hid a;have X:=a.size;have ac:=hid (aj.out V a);have ak:Zbz V I.heap.size:=((Zja I p).alloc _).kep H (fun e=>absurd (y.out.cells e).2.1 (Xbl _));have E:=hid (Zli (S:=S) (B:=w.heap.size) ak);clear i A H a ak))|(at_builtin;go_loud (refine Zf Zb8 (S:=fun b=>(S b/\b<w.heap.size)\/b=I.heap.size) rfl _ _ rfl w.heap.size _ _ rfl ah.out E.out _ (T.drop cu) rfl (Zdk.weak (ZD.src ac.out) fun b _ l=>.inl l) (by simp only [Xd,Xi,Xj,Xm,Xh];unfold maxLen;omega) (by simp only [Xd,Xi,Xj,Xm,Xh];omega) X ?_;intro v9 w9 o D af;rw [an.out] at o;obtain ⟨p9,c9,rfl,_⟩:=o.any.shape;have ag:=hid o;have ab:=hid (ai.out.trans D);clear o D af)))
    go_ret;exact ⟨_,rfl,ZhF ag.out (fun b h=>by subst h;exact x),ab.out⟩
