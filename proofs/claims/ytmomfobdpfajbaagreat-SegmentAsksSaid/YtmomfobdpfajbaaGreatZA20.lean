import Derived.Test.YtmomfobdpfajbaaGreatZA6
import Derived.Test.YtmomfobdpfajbaaGreatZA14
import Derived.Laws.Cover1
set_option maxRecDepth 100000
set_option maxHeartbeats 0
set_option linter.unusedVariables false
set_option linter.unusedSimpArgs false
namespace Go.Proofs.YtmomfobdpfajbaaGreat
open Tryz
namespace DT
open RowKit MM DM
open EM (Zg Zan)
def ZgF (l:List ZN):Nat->Option Xu
 | 0=>none
 | j+1=>l[j]?.map (·.1)
theorem ZuD {l:List ZN} {i:Nat} (hi:i<l.length):ZfY (ZgF l i) (l.drop i)=(okX l[i]&&ZmZ (ZgF l i) l[i].1&&ZfY (ZgF l (i+1)) (l.drop (i+1))):=by
 rw [X7 hi,Zdt];simp [ZgF,hi]
theorem ZuE (l:List ZN):ZfY (ZgF l l.length) (l.drop l.length)=true:=by
 rw [Xaf];cases ZgF l l.length<;>rfl
theorem ZyT {x:ZN} (h:x.1.length<1):okX x=false:=by unfold okX;rw [Xz (show ¬ 1<=x.1.length by omega)];simp
theorem ZBo {x:ZN} (h:65<x.1.length):okX x=false:=by unfold okX;rw [Xz (show ¬x.1.length<=65 by omega)];simp
theorem ZCE {x:ZN} (h1:¬x.1.length<1) (h2:¬ 65<x.1.length):okX x=(Zcx x.2.1&&Zcx x.2.2.1&&Zcx x.2.2.2):=by
 unfold okX;rw [Xs (show 1<=x.1.length by omega),Xs (show x.1.length<=65 by omega)];simp
theorem Zzk (v:Value) (l:List ZN) (w:World) (H:ZF Zbr w v l):Calls prog 92 #[v] w fun e w'=>e=.returned (.bool (ZbC l))/\Below w.heap.size w w':=by
 obtain ⟨p,ae,rfl,ac,Z,_⟩:=H.shape;unfold maxLen at Z;unfold ZbC
 by_cases hn:l.length<=262144
 ·have t1:decide ((l.length:Int)>262144)=false:=Xf;have t2:decide (l.length>262144)=false:=Xf;rw [Xs hn,Xac];obtain ⟨a,g⟩:=Xn (ZfY none l);have H0:Y5 (ZfY (ZgF l 0) (l.drop 0)=a):=Y4 g;rw [g];have HV:=Y4 H;clear H g;go_enter func92,ntmps92;go_wp2_with fail
  go_loopw [3] (fun R wr=>∃i:Nat,i<=l.length/\R=.int .i64 i/\Y5 (ZfY (ZgF l i) (l.drop i)=a)/\Y5 (Below w.heap.size w wr)) (fun R _=>l.length - (intOf R).toNat)
  case atStart=>exact ⟨0,by omega,rfl,H0,Y4 (Below.refl _ _)⟩
  case round =>
  obtain ⟨i,hi,rfl,J,B⟩:=hrel;clear H0
  by_cases t:i<l.length
  ·have q1:decide ((i:Int)<(l.length:Int))=true:=Xt;have q2:decide (i<l.length)=true:=Xt;have q3:(i:Int)<(l.length:Int):=by omega
   have y:=ZF.below HV.z B.z;have N:=Y4 y;obtain ⟨b,off,rfl,af,_,c1,c2,c3,c4⟩:=ZcU y t;have u:=J.z;rw [ZuD t] at u;generalize l[i]=X at *;have ab:=ZaX X.1;have r:=Y4 u;obtain ⟨wx,n⟩:=Xn (wr.alloc (.cells #[.string ⟨X.1.toArray⟩,.int .i64 X.2.1,.int .i64 X.2.2.1,.int .i64 X.2.2.2] 102));obtain ⟨o,k⟩:=Xn wx.drew;have x:Below wr.heap.size wr o:=by rw [<- k,<- n];exact ((Below.refl _ _).alloc (Xa _) _).drew
   have z:Za3 o wr.heap.size 102 (.string ⟨X.1.toArray⟩) (.int .i64 X.2.1) (.int .i64 X.2.2.1) (.int .i64 X.2.2.2):=by rw [<- k,<- n];exact ZeP wr 102 _ _ _ _
   have V:=Y4 n;have M:=Y4 k;have A:=Y4 x;have L:=Y4 z;have m:=Y4 z.lt;have C:=Y4 (B.z.trans (x.mono B.z.size));clear n k x z y u J
   by_cases I:X.1.length<1
   case' pos =>
    have q5:decide ((X.1.length:Int)<1)=true:=Xt;have q6:decide (X.1.length<1)=true:=Xs I;have hf:a=false:=by rw [<- r.z,ZyT I];rfl
   case' neg =>
    have q5:decide ((X.1.length:Int)<1)=false:=Xf;have q6:decide (X.1.length<1)=false:=Xz I
    by_cases G:65<X.1.length
    case' pos =>
     have q7:decide ((X.1.length:Int)>65)=true:=Xt;have q8:decide (65<X.1.length)=true:=Xs G;have hf:a=false:=by rw [<- r.z,ZBo G];rfl
    case' neg =>
     have q7:decide ((X.1.length:Int)>65)=false:=Xf;have q8:decide (65<X.1.length)=false:=Xz G;have c:=ZCE I G;cases p1:Zcx X.2.1
     case' false =>
      have hf:a=false:=by rw [<- r.z,c,p1];simp
     case' true =>
      cases p2:Zcx X.2.2.1
      case' false =>
       have hf:a=false:=by rw [<- r.z,c,p2];simp
      case' true =>
       cases p3:Zcx X.2.2.2
       case' false =>
        have hf:a=false:=by rw [<- r.z,c,p3];simp
       case' true =>
        rw [p1,p2,p3] at c;rcases Nat.eq_zero_or_pos i with Y|Y
        case' inl =>
         have q9:decide ((i:Int)>0)=false:=Xf;have S:decide (0<i)=false:=Xf;have E:=Y4 (show ZfY (ZgF l (i+1)) (l.drop (i+1))=a by rw [<- r.z,c,Y];rfl);clear Y
        case' inr =>
         obtain ⟨j,rfl⟩:∃j,i=j+1:=⟨i - 1,by omega⟩;have O:ZgF l (j+1)=some (l[j]'(by omega)).1:=by unfold ZgF;simp [show j<l.length by omega]
         obtain ⟨b',D,U,q,_,e1,_,_,_⟩:=ZcU N.z (show j<l.length by omega);obtain ⟨rfl,rfl⟩:b=b'/\off=D:=by simpa using U
         generalize l[j]'(by omega)=P at *;have aa:=Y4 ((A.z.cell (p:=⟨b,off+j*4,none⟩) q).trans e1);have T:=Y4 (show b<o.heap.size by have:=A.z.size;omega);have F:=Zan P.1 X.1;have q9:decide (((j:Int)+1)>0)=true:=Xt;have S:(j:Int)<(l.length:Int):=by omega
         have ad:IntKind.i64.wrap (j:Int)=(j:Int):=by rw [IntKind.wrap_i64];omega
         have f5:=fun W (f:RG.Za4 o W)=>(f.cell (p:=⟨b,off+j*4,none⟩) T.z).trans aa.z;clear e1 q;cases hq:Zg P.1 X.1
         case' false =>
          rw [hq] at F;have hf:a=false:=by rw [<- r.z,c,O];simp [ZmZ,hq]
         case' true =>
          rw [hq] at F;have E:=Y4 (show ZfY (ZgF l (j+1+1)) (l.drop (j+1+1))=a by rw [<- r.z,c,O];simp [ZmZ,hq])
         all_goals clear O
   all_goals
    try clear c
    try subst hf
    try have P1:=Y4 p1
    try have P2:=Y4 p2
    try have P3:=Y4 p3
    clear B;go_wp2_with fail;clear c1 c2 c3 c4;refine RG.Zal [(0,true),(1,true),(2,true),(3,true),(4,true),(5,true),(6,true),(7,true),(8,true),(9,true),(10,true),(11,true),(12,true),(13,false),(14,true),(15,true),(16,true),(17,true),(18,true),(19,false),(20,true),(21,true),(22,true),(23,true),(24,true),(25,false),(26,true),(27,true),(28,true),(29,true),(30,true),(31,true),(32,true),(33,true),(34,true),(35,true),(36,true),(37,true),(38,true),(39,true),(40,true),(41,true),(42,true)] (by kernel_rfl) (by kernel_rfl) rfl (by kernel_rfl) (fun _ _ d _ _ h=>by cases d<;>exact h) ?_;simp only [RG.Zt,XC,XN,XU,XV,XS];rw [V.z,M.z];have f1:=fun W (f:RG.Za4 o W)=>(f.cell (p:=⟨wr.heap.size,0,none⟩) m.z).trans L.z.c0;have f2:=fun W (f:RG.Za4 o W)=>(f.cell (p:=⟨wr.heap.size,1,none⟩) m.z).trans L.z.c1;have f3:=fun W (f:RG.Za4 o W)=>(f.cell (p:=⟨wr.heap.size,2,none⟩) m.z).trans L.z.c2;have f4:=fun W (f:RG.Za4 o W)=>(f.cell (p:=⟨wr.heap.size,3,none⟩) m.z).trans L.z.c3;repeat ((first|(refine RG.take (by rfl) (by intro W f;go_simp;with_reducible rfl) ?_)|(refine RG.skip (by rfl) ?_)|(refine RG.Zab (by rfl) ?_));simp only [Act.put,Xm,Xo,Xl])
    first
     | refine RG.done ?_
     | (refine RG.alone (by rfl) (fun K s => ?_);go_simp;refine (ZdK X.2.1 _).mono ?_;rintro e w3 ⟨rfl,rfl⟩;rw [P1.z];go_simp;refine s.z _ _ (Below.refl _ _) ?_;clear s K;(repeat ((first|(refine RG.take (by rfl) (by intro W f;go_simp;with_reducible rfl) ?_)|(refine RG.skip (by rfl) ?_)|(refine RG.Zab (by rfl) ?_));simp only [Act.put,Xm,Xo,Xl]));first|refine RG.done ?_|(refine RG.alone (by rfl) (fun K s => ?_);go_simp;refine (ZdK X.2.2.1 _).mono ?_;rintro e w3 ⟨rfl,rfl⟩;rw [P2.z];go_simp;refine s.z _ _ (Below.refl _ _) ?_;clear s K;(repeat ((first|(refine RG.take (by rfl) (by intro W f;go_simp;with_reducible rfl) ?_)|(refine RG.skip (by rfl) ?_)|(refine RG.Zab (by rfl) ?_));simp only [Act.put,Xm,Xo,Xl]));first|refine RG.done ?_|(refine RG.alone (by rfl) (fun K s => ?_);go_simp;refine (ZdK X.2.2.2 _).mono ?_;rintro e w3 ⟨rfl,rfl⟩;rw [P3.z];go_simp;refine s.z _ _ (Below.refl _ _) ?_;clear s K;(repeat ((first|(refine RG.take (by rfl) (by intro W f;go_simp;with_reducible rfl) ?_)|(refine RG.skip (by rfl) ?_)|(refine RG.Zab (by rfl) ?_));simp only [Act.put,Xm,Xo,Xl]));refine RG.done ?_)))
    clear f1 f2 f3 f4;go_wp2_with fail;first|(go_ret;exact ⟨rfl,C.z⟩)|(go_roundw;(case rel=>exact ⟨_,by omega,by go_num,E,C⟩);(case measure=>simp [intOf];omega))
  ·obtain rfl:i=l.length:=by omega
   have q1:decide ((l.length:Int)<(l.length:Int))=false:=by simp
   have q2:decide (l.length<l.length)=false:=by simp
   have hf:=J.z;rw [ZuE] at hf;subst hf;clear J t;go_wp2_with fail;go_ret;exact ⟨rfl,B.z⟩
 ·have t1:decide ((l.length:Int)>262144)=true:=Xt;have t2:decide (l.length>262144)=true:=Xt;rw [Xz hn,Xab];clear hn H;go_enter func92,ntmps92;go_wp2_with fail;go_ret;exact ⟨rfl,Below.refl _ _⟩
