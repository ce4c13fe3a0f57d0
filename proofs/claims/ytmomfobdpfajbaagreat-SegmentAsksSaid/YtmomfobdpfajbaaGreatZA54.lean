import Derived.Test.YtmomfobdpfajbaaGreatZA9
import Derived.Test.YtmomfobdpfajbaaGreatZA14
set_option maxRecDepth 100000
set_option maxHeartbeats 0
set_option linter.unusedVariables false
set_option linter.unusedSimpArgs false
namespace Go.Proofs.YtmomfobdpfajbaaGreat
open Tryz
namespace EV
open RowKit MM EM
theorem ZpE (u v:Value) (m l:List Zq) (w:World) (hu:ZF ZD w u m) (hv:ZF ZD w v l):Calls prog 14 #[u,v] w (ZbT (decide (m=l)) w):=by
 obtain ⟨p1,ai,rfl,af,ad,_⟩:=hu.shape;obtain ⟨p2,aj,rfl,ac,ae,_⟩:=hv.shape;unfold maxLen at ad ae
 by_cases c:m.length=l.length
 ·have t0:(((m.length:Int)) != ((l.length:Int)))=false:=by simp [c]
  obtain ⟨n,t⟩:=Xn m.length;have y:l.length=n:=by omega
  obtain ⟨I,p⟩:=Xn (decide (m=l));have h0:decide (m.drop 0=l.drop 0)=I:=p;rw [p];have H0:=Y4 h0;have HU:=Y4 hu;have HV:=Y4 hv;have M:=Y4 t;have O:=Y4 y;rw [t,y] at t0;rw [t] at af ⊢;rw [y] at ac ⊢;clear h0 hu hv p c t y;go_enter func14,ntmps14;go_wp2_with fail
  go_loopw [5] (fun iv wr=>∃i:Nat,i<=n/\iv=.int .i64 i/\Y5 (decide (m.drop i=l.drop i)=I)/\Y5 (Below w.heap.size w wr)) (fun iv _=>n - (intOf iv).toNat)
  case atStart=>exact ⟨0,by omega,rfl,H0,Y4 (Below.refl _ _)⟩
  case round =>
   obtain ⟨i,hi,rfl,HI,J⟩:=hrel;clear H0
   by_cases o:i<n
   ·have q1:decide ((i:Int)<(n:Int))=true:=Xt;have q2:decide (i<n)=true:=Xt;have q3:(i:Int)<n:=by omega
    have ha:i<m.length:=by rw [M.z];exact o
    have hb:i<l.length:=by rw [O.z];exact o
    have L:=HU.z.below J.z;have N:=HV.z.below J.z;rw [M.z] at L;rw [O.z] at N;obtain ⟨Z,V,v1,rfl,g,_,c1,c2,c3,r⟩:=Z2 L ha;obtain ⟨b2,R,v2,rfl,f,_,c4,c5,c6,s⟩:=Z2 N hb;have B:=HI.z;rw [ZnU ha hb] at B;generalize m[i]=X at *;generalize l[i]=Y at *;obtain ⟨s1,T,C⟩:=X;obtain ⟨s2,S,D⟩:=Y;dsimp only at c1 c2 c3 r c4 c5 c6 s
    have U:decide ((s1,(T,C))=((s2,(S,D)):Zq))=(decide (s1=s2)&&decide ((T,C)=((S,D):Ev))):=by
     rw [Xa3,Xg,Xw,Xg,Xg];exact Prod.ext_iff
    rw [U] at B;have HN:=Y4 B;have ah:=Y4 o;clear HI L N ha hb B o U
    by_cases e:s1=s2
    ·have c:=HN.z;rw [Xs e,Xac] at c;have t1:(s1 != s2)=false:=by simp [e]
     have ab:=Y4 c;clear HN c e;go_wp2_with fail;refine RG.Zal [(0,true),(1,true),(2,true),(3,true),(4,true),(5,true),(6,true),(7,true),(8,true),(9,true),(10,true),(11,true),(12,true),(13,true),(14,true),(15,true),(16,true),(17,true),(18,true),(19,true),(20,true),(21,true),(22,false),(23,true),(24,true)] (by kernel_rfl) (by kernel_rfl) rfl (by kernel_rfl) (fun _ _ d _ _ h=>by cases d<;>exact h) ?_;simp only [RG.Zt,XC,XN,XU,XV,XS];obtain ⟨H,j⟩:=Xn wr.drew;have a:Below wr.heap.size wr H:=by rw [<- j];exact (Below.refl _ _).drew
     have G:=Y4 (fun W (b:Below H.heap.size H W)=>(show W.cell? ⟨Z,V+i*3,none⟩=some (.int .i64 s1)/\W.cell? ⟨Z,V+i*3+1,none⟩=some (.int .i64 T)/\W.cell? ⟨Z,V+i*3+2,none⟩=some v1/\W.cell? ⟨b2,R+i*3,none⟩=some (.int .i64 s2)/\W.cell? ⟨b2,R+i*3+1,none⟩=some (.int .i64 S)/\W.cell? ⟨b2,R+i*3+2,none⟩=some v2 from
      ⟨((RG.Za4.trans a b).cell (by simpa using g)).trans c1,((RG.Za4.trans a b).cell (by simpa using g)).trans c2,((RG.Za4.trans a b).cell (by simpa using g)).trans c3,((RG.Za4.trans a b).cell (by simpa using f)).trans c4,((RG.Za4.trans a b).cell (by simpa using f)).trans c5,((RG.Za4.trans a b).cell (by simpa using f)).trans c6⟩))
     have x:=Y4 (ZF.below r.any a);have A:=Y4 (ZF.below s.any a);have z:=Y4 (J.z.trans (a.mono J.z.size));change RG.walk _ _ _ _ _ wr.drew;rw [j];clear j a r s c1 c2 c3 c4 c5 c6 g f;repeat (refine RG.take (by rfl) (by intro W b;obtain ⟨f1,f2,f3,f4,f5,f6⟩:=G.z W b;go_simp;with_reducible rfl) ?_;simp only [Act.put,Xm,Xo,Xl])
     try simp only [t1]
     repeat (refine RG.take (by rfl) (by intro W b;obtain ⟨f1,f2,f3,f4,f5,f6⟩:=G.z W b;go_simp;with_reducible rfl) ?_;simp only [Act.put,Xm,Xo,Xl])
     obtain ⟨d,U⟩:∃d,decide ((T,C)=((S,D):Ev))=d:=⟨_,rfl⟩;have k:=Zkm T S _ _ C D _ x.z A.z;rw [U] at k;have q:=Y4 k;have c:=ab.z;rw [U] at c;clear U ab k;have E:=Y4 c;clear c;refine RG.alone (by rfl) (fun K hK => ?_);go_simp;refine q.z.mono ?_;rintro e w1 ⟨rfl,F⟩;go_simp;refine hK.z _ _ F ?_;clear hK K;have aa:=Y4 (z.z.trans (F.mono z.z.size));clear F;clear q;repeat (refine RG.take (by rfl) (by intro W b;go_simp;with_reducible rfl) ?_;simp only [Act.put,Xm,Xo,Xl])
     refine RG.done ?_;clear G x A;cases d with
     | true =>
       have c:=E.z;rw [Xac] at c;have ag:=Y4 c;clear E c;go_wp2_with fail;have o:=ah.z;go_roundw
       case rel=>exact ⟨i+1,by omega,by go_num,ag,aa⟩
       case measure=>simp [intOf];omega
     | false =>
       have c:=E.z;rw [Xab] at c;subst c;clear E;go_wp2_with fail;go_ret;exact ⟨rfl,aa.z⟩
    ·have c:=HN.z;rw [Xz e,Xab] at c;have t1:(s1 != s2)=true:=by simp [e]
     subst c;clear HN e;go_wp2_with fail;refine RG.Zal [(0,true),(1,true),(2,true),(3,true),(4,true),(5,true),(6,true),(7,true),(8,true),(9,true),(10,true),(11,true),(12,true),(13,true),(14,true),(15,true),(16,true),(17,true),(18,true),(19,true),(20,true),(21,true),(22,false),(23,true),(24,true)] (by kernel_rfl) (by kernel_rfl) rfl (by kernel_rfl) (fun _ _ d _ _ h=>by cases d<;>exact h) ?_;simp only [RG.Zt,XC,XN,XU,XV,XS];obtain ⟨H,j⟩:=Xn wr.drew;have a:Below wr.heap.size wr H:=by rw [<- j];exact (Below.refl _ _).drew
     have G:=Y4 (fun W (b:Below H.heap.size H W)=>(show W.cell? ⟨Z,V+i*3,none⟩=some (.int .i64 s1)/\W.cell? ⟨Z,V+i*3+1,none⟩=some (.int .i64 T)/\W.cell? ⟨Z,V+i*3+2,none⟩=some v1/\W.cell? ⟨b2,R+i*3,none⟩=some (.int .i64 s2)/\W.cell? ⟨b2,R+i*3+1,none⟩=some (.int .i64 S)/\W.cell? ⟨b2,R+i*3+2,none⟩=some v2 from
      ⟨((RG.Za4.trans a b).cell (by simpa using g)).trans c1,((RG.Za4.trans a b).cell (by simpa using g)).trans c2,((RG.Za4.trans a b).cell (by simpa using g)).trans c3,((RG.Za4.trans a b).cell (by simpa using f)).trans c4,((RG.Za4.trans a b).cell (by simpa using f)).trans c5,((RG.Za4.trans a b).cell (by simpa using f)).trans c6⟩))
     have x:=Y4 (ZF.below r.any a);have A:=Y4 (ZF.below s.any a);have z:=Y4 (J.z.trans (a.mono J.z.size));change RG.walk _ _ _ _ _ wr.drew;rw [j];clear j a r s c1 c2 c3 c4 c5 c6 g f;repeat (refine RG.take (by rfl) (by intro W b;obtain ⟨f1,f2,f3,f4,f5,f6⟩:=G.z W b;go_simp;with_reducible rfl) ?_;simp only [Act.put,Xm,Xo,Xl])
     try simp only [t1]
     repeat (refine RG.skip (by rfl) ?_;simp only [Act.put,Xm,Xo,Xl])
     refine RG.Zab (by rfl) ?_;simp only [Act.put,Xm,Xo,Xl];repeat (refine RG.skip (by rfl) ?_;simp only [Act.put,Xm,Xo,Xl])
     repeat (refine RG.take (by rfl) (by intro W b;obtain ⟨f1,f2,f3,f4,f5,f6⟩:=G.z W b;go_simp;with_reducible rfl) ?_;simp only [Act.put,Xm,Xo,Xl])
     refine RG.done ?_;clear G x A;go_wp2_with fail;go_ret;exact ⟨rfl,z.z⟩
   ·obtain rfl:i=n:=by omega
    have q1:decide ((i:Int)<(i:Int))=false:=by simp
    have q2:decide (i<i)=false:=by simp
    have hf:I=true:=by
     rw [<- HI.z,Xao (by rw [M.z];exact Xa _),Xao (by rw [O.z];exact Xa _)];simp
    subst hf;clear HI;go_wp2_with fail;go_ret;exact ⟨rfl,J.z⟩
 ·have t0:(((m.length:Int)) != ((l.length:Int)))=true:=by simp;omega
  have e:decide (m=l)=false:=Xz fun h=>c (by rw [h]);rw [e];clear hu hv e c;go_enter func14,ntmps14;go_wp2_with fail;go_ret;exact ⟨rfl,Below.refl _ _⟩
