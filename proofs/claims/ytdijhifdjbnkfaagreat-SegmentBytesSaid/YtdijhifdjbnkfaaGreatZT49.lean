import Derived.Test.YtdijhifdjbnkfaaGreatZT13
import Derived.Test.YtdijhifdjbnkfaaGreatZT11
set_option maxRecDepth 100000
set_option maxHeartbeats 0
set_option linter.unusedVariables false
set_option linter.unusedSimpArgs false
namespace Go.Proofs.YtdijhifdjbnkfaaGreat
open Lib (hid)
open Tryz
namespace EV
open RowKit MM EM
theorem ZgA (u v:Value) (m l:List Zo) (w:World) (hu:ZN ZA w u m) (hv:ZN ZA w v l):Calls prog 14 #[u,v] w (ZcF (decide (m=l)) w):=by
 obtain ⟨p1,aj,rfl,ah,ad,_⟩:=hu.shape;obtain ⟨p2,ai,rfl,ag,af,_⟩:=hv.shape;unfold maxLen at ad af
 by_cases b:m.length=l.length
 ·have t0:(((m.length:Int)) != ((l.length:Int)))=false:=by simp [b]
  obtain ⟨n,E⟩:=Xn m.length;have y:l.length=n:=by omega
  obtain ⟨F,q⟩:=Xn (decide (m=l));have h0:decide (m.drop 0=l.drop 0)=F:=q;rw [q];have H0:=hid h0;have HU:=hid hu;have HV:=hid hv;have L:=hid E;have H:=hid y;rw [E,y] at t0;rw [E] at ah ⊢;rw [y] at ag ⊢;clear h0 hu hv q b E y;go_enter func14,ntmps14;go_wp2_with fail
  go_loopw [5] (fun iv wr=>∃i:Nat,i<=n/\iv=.int .i64 i/\Hid (decide (m.drop i=l.drop i)=F)/\Hid (Below w.heap.size w wr)) (fun iv _=>n - (intOf iv).toNat)
  case atStart=>exact ⟨0,by omega,rfl,H0,hid (Below.refl _ _)⟩
  case round =>
   obtain ⟨i,hi,rfl,HI,J⟩:=hrel;clear H0
   by_cases p:i<n
   ·have q1:decide ((i:Int)<(n:Int))=true:=Xt;have q2:decide (i<n)=true:=Xt;have q3:(i:Int)<n:=by omega
    have ha:i<m.length:=by rw [L.out];exact p
    have hb:i<l.length:=by rw [H.out];exact p
    have M:=HU.out.below J.out;have N:=HV.out.below J.out;rw [L.out] at M;rw [H.out] at N;obtain ⟨b1,V,v1,rfl,f,_,c1,c2,c3,s⟩:=Zad M ha;obtain ⟨U,T,v2,rfl,g,_,c4,c5,c6,o⟩:=Zad N hb;have t:=HI.out;rw [ZnN ha hb] at t;generalize m[i]=X at *;generalize l[i]=Y at *;obtain ⟨s1,Z,C⟩:=X;obtain ⟨s2,R,D⟩:=Y;dsimp only at c1 c2 c3 s c4 c5 c6 o
    have S:decide ((s1,(Z,C))=((s2,(R,D)):Zo))=(decide (s1=s2)&&decide ((Z,C)=((R,D):Ev))):=by
     rw [Bool.eq_iff_iff,Xg,Xy,Xg,Xg];exact Prod.ext_iff
    rw [S] at t;have HN:=hid t;have ac:=hid p;clear HI M N ha hb t p S
    by_cases e:s1=s2
    ·have b:=HN.out;rw [Xw e,Xag] at b;have t1:(s1 != s2)=false:=by simp [e]
     have ab:=hid b;clear HN b e;go_wp2_with fail;refine RG.ZaF [(0,true),(1,true),(2,true),(3,true),(4,true),(5,true),(6,true),(7,true),(8,true),(9,true),(10,true),(11,true),(12,true),(13,true),(14,true),(15,true),(16,true),(17,true),(18,true),(19,true),(20,true),(21,true),(22,false),(23,true),(24,true)] (by kernel_rfl) (by kernel_rfl) rfl (by kernel_rfl) (fun _ _ d _ _ h=>by cases d<;>exact h) ?_;simp only [RG.Zy,XF,XV,XZ,X4,XX];obtain ⟨O,k⟩:=Xn wr.drew;have a:Below wr.heap.size wr O:=by rw [<- k];exact (Below.refl _ _).drew
     have G:=hid (fun W (c:Below O.heap.size O W)=>(show W.cell? ⟨b1,V+i*3,none⟩=some (.int .i64 s1)/\W.cell? ⟨b1,V+i*3+1,none⟩=some (.int .i64 Z)/\W.cell? ⟨b1,V+i*3+2,none⟩=some v1/\W.cell? ⟨U,T+i*3,none⟩=some (.int .i64 s2)/\W.cell? ⟨U,T+i*3+1,none⟩=some (.int .i64 R)/\W.cell? ⟨U,T+i*3+2,none⟩=some v2 from
      ⟨((RG.Zbo.trans a c).cell (by simpa using f)).trans c1,((RG.Zbo.trans a c).cell (by simpa using f)).trans c2,((RG.Zbo.trans a c).cell (by simpa using f)).trans c3,((RG.Zbo.trans a c).cell (by simpa using g)).trans c4,((RG.Zbo.trans a c).cell (by simpa using g)).trans c5,((RG.Zbo.trans a c).cell (by simpa using g)).trans c6⟩))
     have B:=hid (ZN.below s.any a);have x:=hid (ZN.below o.any a);have A:=hid (J.out.trans (a.mono J.out.size));change RG.walk _ _ _ _ _ wr.drew;rw [k];clear k a s o c1 c2 c3 c4 c5 c6 f g;repeat (refine RG.take (by rfl) (by intro W c;obtain ⟨f1,f2,f3,f4,f5,f6⟩:=G.out W c;go_simp;with_reducible rfl) ?_;simp only [Act.put,Xr,Xs,Xq])
     try simp only [t1]
     repeat (refine RG.take (by rfl) (by intro W c;obtain ⟨f1,f2,f3,f4,f5,f6⟩:=G.out W c;go_simp;with_reducible rfl) ?_;simp only [Act.put,Xr,Xs,Xq])
     obtain ⟨d,S⟩:∃d,decide ((Z,C)=((R,D):Ev))=d:=⟨_,rfl⟩;have j:=ZvH Z R _ _ C D _ B.out x.out;rw [S] at j;have r:=hid j;have b:=ab.out;rw [S] at b;clear S ab j;have z:=hid b;clear b;refine RG.alone (by rfl) (fun K hK => ?_);go_simp;refine r.out.mono ?_;rintro e w1 ⟨rfl,I⟩;go_simp;refine hK.out _ _ I ?_;clear hK K;have aa:=hid (A.out.trans (I.mono A.out.size));clear I;clear r;repeat (refine RG.take (by rfl) (by intro W c;go_simp;with_reducible rfl) ?_;simp only [Act.put,Xr,Xs,Xq])
     refine RG.done ?_;clear G B x;cases d with
     | true =>
       have b:=z.out;rw [Xag] at b;have ae:=hid b;clear z b;go_wp2_with fail;have p:=ac.out;go_roundw
       case rel=>exact ⟨i+1,by omega,by go_num,ae,aa⟩
       case measure=>simp [intOf];omega
     | false =>
       have b:=z.out;rw [Xad] at b;subst b;clear z;go_wp2_with fail;go_ret;exact ⟨rfl,aa.out⟩
    ·have b:=HN.out;rw [XB e,Xad] at b;have t1:(s1 != s2)=true:=by simp [e]
     subst b;clear HN e;go_wp2_with fail;refine RG.ZaF [(0,true),(1,true),(2,true),(3,true),(4,true),(5,true),(6,true),(7,true),(8,true),(9,true),(10,true),(11,true),(12,true),(13,true),(14,true),(15,true),(16,true),(17,true),(18,true),(19,true),(20,true),(21,true),(22,false),(23,true),(24,true)] (by kernel_rfl) (by kernel_rfl) rfl (by kernel_rfl) (fun _ _ d _ _ h=>by cases d<;>exact h) ?_;simp only [RG.Zy,XF,XV,XZ,X4,XX];obtain ⟨O,k⟩:=Xn wr.drew;have a:Below wr.heap.size wr O:=by rw [<- k];exact (Below.refl _ _).drew
     have G:=hid (fun W (c:Below O.heap.size O W)=>(show W.cell? ⟨b1,V+i*3,none⟩=some (.int .i64 s1)/\W.cell? ⟨b1,V+i*3+1,none⟩=some (.int .i64 Z)/\W.cell? ⟨b1,V+i*3+2,none⟩=some v1/\W.cell? ⟨U,T+i*3,none⟩=some (.int .i64 s2)/\W.cell? ⟨U,T+i*3+1,none⟩=some (.int .i64 R)/\W.cell? ⟨U,T+i*3+2,none⟩=some v2 from
      ⟨((RG.Zbo.trans a c).cell (by simpa using f)).trans c1,((RG.Zbo.trans a c).cell (by simpa using f)).trans c2,((RG.Zbo.trans a c).cell (by simpa using f)).trans c3,((RG.Zbo.trans a c).cell (by simpa using g)).trans c4,((RG.Zbo.trans a c).cell (by simpa using g)).trans c5,((RG.Zbo.trans a c).cell (by simpa using g)).trans c6⟩))
     have B:=hid (ZN.below s.any a);have x:=hid (ZN.below o.any a);have A:=hid (J.out.trans (a.mono J.out.size));change RG.walk _ _ _ _ _ wr.drew;rw [k];clear k a s o c1 c2 c3 c4 c5 c6 f g;repeat (refine RG.take (by rfl) (by intro W c;obtain ⟨f1,f2,f3,f4,f5,f6⟩:=G.out W c;go_simp;with_reducible rfl) ?_;simp only [Act.put,Xr,Xs,Xq])
     try simp only [t1]
     repeat (refine RG.skip (by rfl) ?_;simp only [Act.put,Xr,Xs,Xq])
     refine RG.Zap (by rfl) ?_;simp only [Act.put,Xr,Xs,Xq];repeat (refine RG.skip (by rfl) ?_;simp only [Act.put,Xr,Xs,Xq])
     repeat (refine RG.take (by rfl) (by intro W c;obtain ⟨f1,f2,f3,f4,f5,f6⟩:=G.out W c;go_simp;with_reducible rfl) ?_;simp only [Act.put,Xr,Xs,Xq])
     refine RG.done ?_;clear G B x;go_wp2_with fail;go_ret;exact ⟨rfl,A.out⟩
   ·obtain rfl:i=n:=by omega
    have q1:decide ((i:Int)<(i:Int))=false:=by simp
    have q2:decide (i<i)=false:=by simp
    have hf:F=true:=by
     rw [<- HI.out,XaH (by rw [L.out];exact Xc _),XaH (by rw [H.out];exact Xc _)];simp
    subst hf;clear HI;go_wp2_with fail;go_ret;exact ⟨rfl,J.out⟩
 ·have t0:(((m.length:Int)) != ((l.length:Int)))=true:=by simp;omega
  have e:decide (m=l)=false:=XB fun h=>b (by rw [h]);rw [e];clear hu hv e b;go_enter func14,ntmps14;go_wp2_with fail;go_ret;exact ⟨rfl,Below.refl _ _⟩
