import Derived.Test.YtdijhifdjbnkfaaGreatZT13
import Derived.Test.YtdijhifdjbnkfaaGreatZT27
import Derived.Test.YtdijhifdjbnkfaaGreatZT11
set_option maxRecDepth 100000
set_option maxHeartbeats 0
set_option linter.unusedVariables false
set_option linter.unusedSimpArgs false
namespace Go.Proofs.YtdijhifdjbnkfaaGreat
open Lib (hid)
open Tryz
namespace EV
open RowKit MM EM
open TK (Z6 Zam ZdX ZbH Zjh ZkU KIn Zif)
variable {m:Nat}
def Zic (m:Nat) (T:List Trm):Prop:=T.length<=m/\∀t∈T,t.1.length<=10000/\t.2.length<=m
theorem Zic.few {T:List Trm} (h:Zic m T) (a:m<=100000):Few T:=⟨Xx h.1 a,fun t b=>⟨(h.2 t b).1,Xx (h.2 t b).2 a⟩⟩
theorem Zic.mono {n:Nat} {T:List Trm} (h:Zic m T) (a:m<=n):Zic n T:=⟨Xx h.1 a,fun t b=>⟨(h.2 t b).1,Xx (h.2 t b).2 a⟩⟩
theorem ZtG:∀{l:List Trm} {s:Xu} {p:Int} {m:Nat},s.length<=10000->(∀t∈l,t.1.length<=10000/\t.2.length<=m)->∀t∈Zaj l s p,t.1.length<=10000/\t.2.length<=m+1
 | [],s,p,m,hs,_=>by
   intro t a;simp only [Zaj,XaF] at a;subst a;exact ⟨hs,by simp⟩
 | u::r,s,p,m,hs,h=>by
   intro t a;have c:=h u (by simp);have b:∀v∈r,v.1.length<=10000/\v.2.length<=m:=fun v d=>h v (by simp [d]);rw [Zaj] at a
   split at a
   ·rcases XS.1 a with rfl|a
    ·exact ⟨c.1,by omega⟩
    ·exact ZtG hs b t a
   ·split at a
    ·rcases XS.1 a with rfl|a
     ·exact ⟨hs,by rw [Xd];simp;exact c.2⟩
     ·exact ⟨(b t a).1,by have:=(b t a).2;omega⟩
    ·rcases XS.1 a with rfl|a
     ·exact ⟨hs,by simp⟩
     ·exact ⟨(h t a).1,by have:=(h t a).2;omega⟩
theorem Zic.add {T:List Trm} (h:Zic m T) {s:Xu} (p:Int) (hs:s.length<=10000):Zic (m+1) (Zaj T s p) :=
 ⟨by have:=ZgT T s p;have:=h.1;omega,ZtG hs h.2⟩
theorem ZzH (l:Xu):∀s∈Z6 l,s.length<=32:=fun s hs=>(TK.ZhY l s hs).2
theorem ZpH {fs:List Fld} (b:∀f∈fs,f.2.length<=4096):∀k,k<=fs.length->0<=ZaR (fs.take k)/\ZaR (fs.take k)<=4160*(k:Int)
 | 0,_=>by simp [ZaR]
 | k+1,h=>by
   have a:k<fs.length:=by omega
   have ih:=ZpH b k (by omega);have h1:=Zam fs[k].2;have h2:=b fs[k] (XH a);rw [Zf3 a];push_cast;omega
theorem ZmX (z:Int) (v:Value) (fs:List Fld) (w:World) (hr:ZN Z8 w v fs):Calls prog 35 #[.agg #[.int .i64 z,v]] w (ZpB (Z5 (z,fs)) w):=by
 obtain ⟨p,t,rfl,a0,aR,_⟩:=hr.shape;unfold maxLen at aR;have ag:=ZbB w z (.slice p fs.length t);have H:=hid (ZiC z _ fs _ (hr.below ag));have aL:=hid ag;clear ag;obtain ⟨c,hc⟩:=Xn (ZG (z,fs));rw [hc] at H
 by_cases h0:c=0
 ·subst h0;have e0:Z5 (z,fs)=Zcs fs:=by unfold Z5;rw [Xa (by simp [hc])]
  rw [e0];obtain ⟨al,B⟩:=ZaL.1 hc;have aE:∀f∈fs,f.1.length<=4096:=fun f hf=>by have:=Zdd (B f hf).1;omega
  have hx:∀f∈fs,f.2.length<=4096:=fun f hf=>(B f hf).2;have aP:=hid aE;have HX:=hid hx;have HR:=hid hr;have aY:fs.length<=16:=by simpa using al
  clear e0 B hr hc aE hx al;go_enter func35,ntmps35;go_wp2_with fail;refine H.out.mono ?_;rintro e w1 ⟨rfl,u⟩;obtain ⟨c0,c1,l⟩:=ZcR u;have aj:=hid u;have az:Hid (Zic (4096*0) (ZC [] (ZL 0 (fs.take 0)))):=hid (by simp [Zic,ZL,ZC]);have aq:Hid (ZiQ w.heap.size w1 (.slice none 0 0) (ZC [] (ZL 0 (fs.take 0)))):=hid (ZD.nil_ _ _);have aG:Hid ((0:Int)=ZaR (fs.take 0)):=hid (by simp [ZaR]);clear u l H;go_wp2_with fail
  go_loopw [3,4,5] (fun lv ev iv wr=>∃(i:Nat) (E:Int),i<=fs.length/\ev=.int .i64 E/\iv=.int .i64 i/\0<=E/\E<=100000/\Hid (E=ZaR (fs.take i))/\Hid (Zic (4096*i) (ZC [] (ZL 0 (fs.take i))))/\Hid (ZiQ w.heap.size wr lv (ZC [] (ZL 0 (fs.take i))))/\Hid (Below (Za1 w z (.slice p fs.length t)).heap.size (Za1 w z (.slice p fs.length t)) wr)) (fun _ _ iv _=>fs.length - (intOf iv).toNat)
  case atStart=>exact ⟨0,0,by omega,rfl,rfl,by omega,by omega,aG,az,aq,aj⟩
  case round =>
   obtain ⟨i,E,hi,rfl,rfl,a6,aZ,HE,HF,HU,HB⟩:=hrel;clear az aq aG aj c0 c1;obtain ⟨c0,c1,l⟩:=ZcR HB.out
   by_cases j:i<fs.length
   ·have q1:decide ((i:Int)<(fs.length:Int))=true:=Xt;have q2:decide (i<fs.length)=true:=Xt;obtain ⟨b,off,rfl,am,_,d0,d1⟩:=ZeR HR.out j;have HD:=hid (fun W (J:Below w.heap.size w W)=>(show W.cell? ⟨b,off+i*2,none⟩=some (.string ⟨fs[i].1.toArray⟩) from (J.cell (p:=⟨b,off+i*2,none⟩) am).trans d0));have d3:=(l.cell (p:=⟨b,off+i*2+1,none⟩) am).trans d1;have a2:=HX.out fs[i] (XH j);have aT:=aP.out fs[i] (XH j);have R:=Zf3 j;have af:=ZkJ j;have L:=(ZpH HX.out (i+1) (by omega)).2;have a5:=Zam fs[i].2;have y:=ZzH fs[i].2;have F:=fun W=>ZkU ⟨fs[i].2.toArray⟩ W (by rw [Zbh];omega);simp only [Zd7] at F;rw [<- HE.out] at R af;have hU:=HU.out;have O:=HF.out;generalize fs[i].1=q at *;generalize fs[i].2=tx at *;generalize Z6 tx=a at *;obtain ⟨U,X⟩:=Xn (ZC [] (ZL 0 (fs.take i)));rw [X] at hU O;have aU:Hid (ZC [] (ZL 0 (fs.take (i+1)))=ZC U (Zae q a E)):=hid (by rw [af,ZaW,X]);have Y:E+(a.length:Int)+64=ZaR (fs.take (i+1)):=R.symm;have a4:E+(a.length:Int)+64<=100000:=by rw [Y];push_cast at L;omega
    have ai:a.length<=4096:=by omega
    have aF:=hid (F wr);have aW:=hid Y;have aI:=hid j;have aO:=hid y;have ax:=hid hU;have aA:=hid O;clear R af L F j d0 d1 Y HE l hU O X HU HF y;go_wp2_with fail;refine aF.out.mono ?_;rintro e w5 ⟨vt,rfl,I,ah⟩;obtain ⟨pt,ct,rfl,aV,aD⟩:=KIn.shape I;rw [ZbH] at aV I ⊢;unfold maxLen at aD;have ay:Hid (ZiQ w.heap.size w5 u3 (ZC U (Zae q (a.take 0) E))):=hid (ax.out.below ah);have ao:Hid (Zic (4096*i+0) (ZC U (Zae q (a.take 0) E))):=hid aA.out;have ar:=hid (HB.out.trans (ah.mono HB.out.size));have ap:=hid I;clear I ah aF HB c0 c1 d3 ax aA;go_wp2_with fail
    go_loopw [3,7] (fun lv kv wk=>∃k:Nat,k<=a.length/\kv=.int .i64 k/\Hid (Zic (4096*i+k) (ZC U (Zae q (a.take k) E)))/\Hid (ZiQ w.heap.size wk lv (ZC U (Zae q (a.take k) E)))/\Hid (Below (Za1 w z (.slice (some ⟨b,off,none⟩) fs.length t)).heap.size (Za1 w z (.slice (some ⟨b,off,none⟩) fs.length t)) wk)/\Hid (Zif wk (.slice pt a.length ct) (ZdX a))) (fun _ kv _=>a.length - (intOf kv).toNat)
    case atStart=>exact ⟨0,by omega,rfl,ao,ay,ar,ap⟩
    case round =>
     obtain ⟨k,hk,rfl,ae,T,A,Z⟩:=hrel;clear ao ay ar ap
     by_cases r:k<a.length
     ·have r1:decide ((k:Int)<(a.length:Int))=true:=Xt;have r2:decide (k<a.length)=true:=Xt;obtain ⟨c0,c1,l⟩:=ZcR A.out;obtain ⟨g,o,rfl,ad,t0,t1⟩:=KIn.at_ Z.out (k:=k) (by rw [ZbH];exact r);rw [Zjh] at t0 t1;have aJ:=aO.out a[k] (XH r);have ak:=ZkL q r E;generalize a[k]=x at *;dsimp only at t0 t1;have d0:=HD.out _ l;have hU:=T.out;have O:=ae.out;have S:ZC U (Zae q (a.take (k+1)) E)=Zaj (ZC U (Zae q (a.take k) E)) (q++58::x) (E+(k:Int)):=by rw [ak,ZaW];rfl
      obtain ⟨V,hV⟩:=Xn (ZC U (Zae q (a.take k) E));rw [hV] at hU O S
      have C:(⟨q.toArray⟩:ByteArray)++⟨#[58]⟩++⟨x.toArray⟩=⟨(q++58::x).toArray⟩:=by
       rw [show (⟨#[58]⟩:ByteArray)=⟨[58].toArray⟩ from rfl,ZfI,ZfI,Xl];rfl
      have a1:(⟨q.toArray⟩:ByteArray).size<=4096:=by rw [Zbh];exact aT
      have a3:(⟨x.toArray⟩:ByteArray).size<=32:=by rw [Zbh];exact aJ
      have av:(q++58::x).length<=10000:=by rw [Xd,Xh];omega
      have ab:=hid S;have aC:=hid r;go_wp2_with fail;refine RG.ZaF [(0,true),(1,true),(2,true),(3,true),(4,true),(5,true),(6,true),(7,true),(8,true),(9,true),(10,true),(11,true),(12,true),(13,true),(14,true),(15,true),(16,true),(17,true),(18,true),(19,true),(20,true),(21,false),(22,true)] (by kernel_rfl) (by kernel_rfl) rfl (by kernel_rfl) (fun _ _ d _ _ h=>by cases d<;>exact h) ?_;simp only [RG.Zy,XF,XV,XZ,X4,XX];obtain ⟨wd,y⟩:=Xn wr.drew;have n:Below wr.heap.size wr wd:=by rw [<- y];exact (Below.refl _ _).drew
      have ai:w.heap.size<wr.heap.size:=by have:=A.out.size;rw [ZbZ] at this;omega
      have N:b<wr.heap.size:=by omega
      have G:=hid (fun W (J:Below wd.heap.size wd W)=>(show W.cell? ⟨w.heap.size,1,none⟩=some (.slice (some ⟨b,off,none⟩) fs.length t)/\W.cell? ⟨b,off+i*2,none⟩=some (.string ⟨q.toArray⟩)/\W.cell? ⟨g,o+k*2,none⟩=some (.string ⟨x.toArray⟩)/\W.cell? ⟨g,o+k*2+1,none⟩=some (.int .i64 (k:Int)) from
       ⟨((grow n J).cell (p:=⟨w.heap.size,1,none⟩) ai).trans c1,((grow n J).cell (p:=⟨b,off+i*2,none⟩) N).trans d0,((grow n J).cell (p:=⟨g,o+k*2,none⟩) ad).trans t0,((grow n J).cell (p:=⟨g,o+k*2+1,none⟩) ad).trans t1⟩))
      have aM:Hid (w.heap.size<=wd.heap.size):=hid (by have:=n.size;omega);have D:=hid (ZBi (fun b=>w.heap.size<=b) u3 V (q++58::x) (E+(k:Int)) wd (hU.below n) (O.few (by omega)) av);have au:=hid (O.add (E+(k:Int)) av);have ac:=hid (A.out.trans (n.mono A.out.size));have aB:=hid (Zif.below Z.out n);change RG.walk _ _ _ _ _ wr.drew;rw [y];clear y n ai N c0 c1 d0 t0 t1 ad hU O S hV l r ak ae T A Z;repeat (refine RG.take (by rfl) (by intro W J;obtain ⟨f1,f2,f3,f4⟩:=G.out W J;go_simp;first|with_reducible rfl|(rw [Xa (by omega)])|(rw [Xe aC.out])) ?_;simp only [Act.put,Xr,Xs,Xq])
      have M:IntKind.i64.wrap (E+(k:Int))=E+(k:Int):=by rw [IntWalk.i64_left];exact IntWalk.wrap64_in _ ⟨by omega,by omega⟩
      try rw [M]
      clear M;try rw [C]
      refine RG.alone (by rfl) (fun K hK => ?_);go_simp;try rw [C]
      refine D.out.mono ?_;rintro e w7 ⟨lw,rfl,an,s⟩;go_simp;refine hK.out _ _ s ?_;clear hK K;have aX:Hid (Zic (4096*i+(k+1)) (ZC U (Zae q (a.take (k+1)) E))):=hid (by rw [ab.out];exact au.out);have aN:Hid (ZiQ w.heap.size w7 lw (ZC U (Zae q (a.take (k+1)) E))):=hid (by rw [ab.out];exact ZiQ.of aM.out an);have aQ:=hid (ac.out.trans (s.mono ac.out.size));have aH:=hid (Zif.below aB.out s);clear an s D au ac aB ab C;repeat (refine RG.take (by rfl) (by intro W J;go_simp;with_reducible rfl) ?_;simp only [Act.put,Xr,Xs,Xq])
      refine RG.done ?_;clear G;go_wp2_with fail;have r:=aC.out;go_roundw
      case rel=>exact ⟨k+1,by omega,by go_num,aX,aN,aQ,aH⟩
      case measure=>simp [intOf];omega
     ·obtain rfl:k=a.length:=by omega
      have r1:decide ((a.length:Int)<(a.length:Int))=false:=by simp
      have r2:decide (a.length<a.length)=false:=by simp
      have hu:=T.out;have hf:=ae.out;rw [XC,<- aU.out] at hu hf;have aa:=hid hu;have aS:Hid (Zic (4096*(i+1)) (ZC [] (ZL 0 (fs.take (i+1))))):=hid (hf.mono (by omega));clear r hu hf;go_wp2_with fail;have j:=aI.out;go_roundw
      case rel=>exact ⟨i+1,E+(a.length:Int)+64,by omega,rfl,by go_num,by omega,by omega,aW,aS,aa,A⟩
      case measure=>simp [intOf];omega
   ·obtain rfl:i=fs.length:=by omega
    have q1:decide ((fs.length:Int)<(fs.length:Int))=false:=by simp
    have q2:decide (fs.length<fs.length)=false:=by simp
    have hu:=HU.out;rw [XC] at hu;have aa:=hid hu;have aw:=hid l;clear j hu l c0;go_wp2_with fail;go_ret;exact ⟨_,rfl,aa.out,aw.out⟩
 ·have t1:(c != 0)=true:=by simp [h0]
  have e0:Z5 (z,fs)=[]:=by unfold Z5;rw [Xe (by rw [hc];exact h0)]
  rw [e0];clear hc h0 e0 hr;go_enter func35,ntmps35;go_wp2_with fail;refine H.out.mono ?_;rintro e w1 ⟨rfl,u⟩;have aK:=hid (grow aL.out u);clear u;go_wp2_with fail;go_ret;exact ⟨_,rfl,ZD.nil_ _ _,aK.out⟩
