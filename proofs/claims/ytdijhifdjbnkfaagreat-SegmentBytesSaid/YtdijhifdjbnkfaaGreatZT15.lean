import Derived.Test.YtdijhifdjbnkfaaGreatZT5
import Derived.Test.YtdijhifdjbnkfaaGreatZT11
import Derived.Laws.Cover1
set_option maxRecDepth 100000
set_option maxHeartbeats 0
set_option linter.unusedVariables false
set_option linter.unusedSimpArgs false
namespace Go.Proofs.YtdijhifdjbnkfaaGreat
open Lib (hid)
open Tryz
namespace DT
open RowKit MM DM
open EM (Zj Zaq)
def ZgJ (l:List ZQ):Nat->Option Xu
 | 0=>none
 | j+1=>l[j]?.map (·.1)
theorem Zt4 {l:List ZQ} {i:Nat} (hi:i<l.length):Zf2 (ZgJ l i) (l.drop i)=(okX l[i]&&ZmU (ZgJ l i) l[i].1&&Zf2 (ZgJ l (i+1)) (l.drop (i+1))):=by
 rw [X9 hi,Zds];simp [ZgJ,hi]
theorem Zt5 (l:List ZQ):Zf2 (ZgJ l l.length) (l.drop l.length)=true:=by
 rw [Xae];cases ZgJ l l.length<;>rfl
theorem Zyq {x:ZQ} (h:x.1.length<1):okX x=false:=by unfold okX;rw [XB (show ¬ 1<=x.1.length by omega)];simp
theorem ZA1 {x:ZQ} (h:65<x.1.length):okX x=false:=by unfold okX;rw [XB (show ¬x.1.length<=65 by omega)];simp
theorem ZCq {x:ZQ} (h1:¬x.1.length<1) (h2:¬ 65<x.1.length):okX x=(ZcB x.2.1&&ZcB x.2.2.1&&ZcB x.2.2.2):=by
 unfold okX;rw [Xw (show 1<=x.1.length by omega),Xw (show x.1.length<=65 by omega)];simp
theorem ZyS (v:Value) (l:List ZQ) (w:World) (H:ZN ZbT w v l):Calls prog 92 #[v] w fun e w'=>e=.returned (.bool (Zb7 l))/\Below w.heap.size w w':=by
 obtain ⟨p,ag,rfl,ae,S,_⟩:=H.shape;unfold maxLen at S;unfold Zb7
 by_cases R:l.length<=262144
 ·have t1:decide ((l.length:Int)>262144)=false:=Xf;have t2:decide (l.length>262144)=false:=Xf;rw [Xw R,Xag];obtain ⟨a,g⟩:=Xn (Zf2 none l);have H0:Hid (Zf2 (ZgJ l 0) (l.drop 0)=a):=hid g;rw [g];have HV:=hid H;clear H g;go_enter func92,ntmps92;go_wp2_with fail
  go_loopw [3] (fun N wr=>∃i:Nat,i<=l.length/\N=.int .i64 i/\Hid (Zf2 (ZgJ l i) (l.drop i)=a)/\Hid (Below w.heap.size w wr)) (fun N _=>l.length - (intOf N).toNat)
  case atStart=>exact ⟨0,by omega,rfl,H0,hid (Below.refl _ _)⟩
  case round =>
  obtain ⟨i,hi,rfl,M,C⟩:=hrel;clear H0
  by_cases x:i<l.length
  ·have q1:decide ((i:Int)<(l.length:Int))=true:=Xt;have q2:decide (i<l.length)=true:=Xt;have q3:(i:Int)<(l.length:Int):=by omega
   have A:=ZN.below HV.out C.out;have Y:=hid A;obtain ⟨b,off,rfl,ac,_,c1,c2,c3,c4⟩:=Zdx A x;have u:=M.out;rw [Zt4 x] at u;generalize l[i]=X at *;have ad:=Zbh X.1;have r:=hid u;obtain ⟨wx,m⟩:=Xn (wr.alloc (.cells #[.string ⟨X.1.toArray⟩,.int .i64 X.2.1,.int .i64 X.2.2.1,.int .i64 X.2.2.2] 102));obtain ⟨t,n⟩:=Xn wx.drew;have z:Below wr.heap.size wr t:=by rw [<- n,<- m];exact ((Below.refl _ _).alloc (Xc _) _).drew
   have y:Za3 t wr.heap.size 102 (.string ⟨X.1.toArray⟩) (.int .i64 X.2.1) (.int .i64 X.2.2.1) (.int .i64 X.2.2.2):=by rw [<- n,<- m];exact ZeS wr 102 _ _ _ _
   have ab:=hid m;have Z:=hid n;have G:=hid z;have I:=hid y;have k:=hid y.lt;have D:=hid (C.out.trans (z.mono C.out.size));clear m n z y A u M
   by_cases J:X.1.length<1
   case' pos =>
    have q5:decide ((X.1.length:Int)<1)=true:=Xt;have q6:decide (X.1.length<1)=true:=Xw J;have o:a=false:=by rw [<- r.out,Zyq J];rfl
   case' neg =>
    have q5:decide ((X.1.length:Int)<1)=false:=Xf;have q6:decide (X.1.length<1)=false:=XB J
    by_cases L:65<X.1.length
    case' pos =>
     have q7:decide ((X.1.length:Int)>65)=true:=Xt;have q8:decide (65<X.1.length)=true:=Xw L;have o:a=false:=by rw [<- r.out,ZA1 L];rfl
    case' neg =>
     have q7:decide ((X.1.length:Int)>65)=false:=Xf;have q8:decide (65<X.1.length)=false:=XB L;have c:=ZCq J L;cases p1:ZcB X.2.1
     case' false =>
      have o:a=false:=by rw [<- r.out,c,p1];simp
     case' true =>
      cases p2:ZcB X.2.2.1
      case' false =>
       have o:a=false:=by rw [<- r.out,c,p2];simp
      case' true =>
       cases p3:ZcB X.2.2.2
       case' false =>
        have o:a=false:=by rw [<- r.out,c,p3];simp
       case' true =>
        rw [p1,p2,p3] at c;rcases Nat.eq_zero_or_pos i with U|U
        case' inl =>
         have q9:decide ((i:Int)>0)=false:=Xf;have V:decide (0<i)=false:=Xf;have F:=hid (show Zf2 (ZgJ l (i+1)) (l.drop (i+1))=a by rw [<- r.out,c,U];rfl);clear U
        case' inr =>
         obtain ⟨j,rfl⟩:∃j,i=j+1:=⟨i - 1,by omega⟩;have hP:ZgJ l (j+1)=some (l[j]'(by omega)).1:=by unfold ZgJ;simp [show j<l.length by omega]
         obtain ⟨b',E,aa,s,_,e1,_,_,_⟩:=Zdx Y.out (show j<l.length by omega);obtain ⟨rfl,rfl⟩:b=b'/\off=E:=by simpa using aa
         generalize l[j]'(by omega)=P at *;have T:=hid ((G.out.cell (p:=⟨b,off+j*4,none⟩) s).trans e1);have O:=hid (show b<t.heap.size by have:=G.out.size;omega);have B:=Zaq P.1 X.1;have q9:decide (((j:Int)+1)>0)=true:=Xt;have V:(j:Int)<(l.length:Int):=by omega
         have af:IntKind.i64.wrap (j:Int)=(j:Int):=by rw [IntKind.wrap_i64];omega
         have f5:=fun W (f:RG.Zbo t W)=>(f.cell (p:=⟨b,off+j*4,none⟩) O.out).trans T.out;clear e1 s;cases hq:Zj P.1 X.1
         case' false =>
          rw [hq] at B;have o:a=false:=by rw [<- r.out,c,hP];simp [ZmU,hq]
         case' true =>
          rw [hq] at B;have F:=hid (show Zf2 (ZgJ l (j+1+1)) (l.drop (j+1+1))=a by rw [<- r.out,c,hP];simp [ZmU,hq])
         all_goals clear hP
   all_goals
    try clear c
    try subst o
    try have P1:=hid p1
    try have P2:=hid p2
    try have P3:=hid p3
    clear C;go_wp2_with fail;clear c1 c2 c3 c4;refine RG.ZaF [(0,true),(1,true),(2,true),(3,true),(4,true),(5,true),(6,true),(7,true),(8,true),(9,true),(10,true),(11,true),(12,true),(13,false),(14,true),(15,true),(16,true),(17,true),(18,true),(19,false),(20,true),(21,true),(22,true),(23,true),(24,true),(25,false),(26,true),(27,true),(28,true),(29,true),(30,true),(31,true),(32,true),(33,true),(34,true),(35,true),(36,true),(37,true),(38,true),(39,true),(40,true),(41,true),(42,true)] (by kernel_rfl) (by kernel_rfl) rfl (by kernel_rfl) (fun _ _ d _ _ h=>by cases d<;>exact h) ?_;simp only [RG.Zy,XF,XV,XZ,X4,XX];rw [ab.out,Z.out];have f1:=fun W (f:RG.Zbo t W)=>(f.cell (p:=⟨wr.heap.size,0,none⟩) k.out).trans I.out.c0;have f2:=fun W (f:RG.Zbo t W)=>(f.cell (p:=⟨wr.heap.size,1,none⟩) k.out).trans I.out.c1;have f3:=fun W (f:RG.Zbo t W)=>(f.cell (p:=⟨wr.heap.size,2,none⟩) k.out).trans I.out.c2;have f4:=fun W (f:RG.Zbo t W)=>(f.cell (p:=⟨wr.heap.size,3,none⟩) k.out).trans I.out.c3;repeat ((first|(refine RG.take (by rfl) (by intro W f;go_simp;with_reducible rfl) ?_)|(refine RG.skip (by rfl) ?_)|(refine RG.Zap (by rfl) ?_));simp only [Act.put,Xr,Xs,Xq])
    first
     | refine RG.done ?_
     | (refine RG.alone (by rfl) (fun K q => ?_);go_simp;refine (Ze0 X.2.1 _).mono ?_;rintro e w3 ⟨rfl,rfl⟩;rw [P1.out];go_simp;refine q.out _ _ (Below.refl _ _) ?_;clear q K;(repeat ((first|(refine RG.take (by rfl) (by intro W f;go_simp;with_reducible rfl) ?_)|(refine RG.skip (by rfl) ?_)|(refine RG.Zap (by rfl) ?_));simp only [Act.put,Xr,Xs,Xq]));first|refine RG.done ?_|(refine RG.alone (by rfl) (fun K q => ?_);go_simp;refine (Ze0 X.2.2.1 _).mono ?_;rintro e w3 ⟨rfl,rfl⟩;rw [P2.out];go_simp;refine q.out _ _ (Below.refl _ _) ?_;clear q K;(repeat ((first|(refine RG.take (by rfl) (by intro W f;go_simp;with_reducible rfl) ?_)|(refine RG.skip (by rfl) ?_)|(refine RG.Zap (by rfl) ?_));simp only [Act.put,Xr,Xs,Xq]));first|refine RG.done ?_|(refine RG.alone (by rfl) (fun K q => ?_);go_simp;refine (Ze0 X.2.2.2 _).mono ?_;rintro e w3 ⟨rfl,rfl⟩;rw [P3.out];go_simp;refine q.out _ _ (Below.refl _ _) ?_;clear q K;(repeat ((first|(refine RG.take (by rfl) (by intro W f;go_simp;with_reducible rfl) ?_)|(refine RG.skip (by rfl) ?_)|(refine RG.Zap (by rfl) ?_));simp only [Act.put,Xr,Xs,Xq]));refine RG.done ?_)))
    clear f1 f2 f3 f4;go_wp2_with fail;first|(go_ret;exact ⟨rfl,D.out⟩)|(go_roundw;(case rel=>exact ⟨_,by omega,by go_num,F,D⟩);(case measure=>simp [intOf];omega))
  ·obtain rfl:i=l.length:=by omega
   have q1:decide ((l.length:Int)<(l.length:Int))=false:=by simp
   have q2:decide (l.length<l.length)=false:=by simp
   have o:=M.out;rw [Zt5] at o;subst o;clear M x;go_wp2_with fail;go_ret;exact ⟨rfl,C.out⟩
 ·have t1:decide ((l.length:Int)>262144)=true:=Xt;have t2:decide (l.length>262144)=true:=Xt;rw [XB R,Xad];clear R H;go_enter func92,ntmps92;go_wp2_with fail;go_ret;exact ⟨rfl,Below.refl _ _⟩
