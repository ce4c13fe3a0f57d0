import Derived.Test.YtmomfobdpfajbaaGreatZA9
import Derived.Test.YtmomfobdpfajbaaGreatZA29
import Derived.Test.YtmomfobdpfajbaaGreatZA14
set_option maxRecDepth 100000
set_option maxHeartbeats 0
set_option linter.unusedVariables false
set_option linter.unusedSimpArgs false
namespace Go.Proofs.YtmomfobdpfajbaaGreat
open Tryz
namespace EV
open RowKit MM EM
open TK (Z4 Zag ZdV ZbA Zjn Zk1 KIn Zik)
variable {m:Nat}
def Zii (m:Nat) (T:List Trm):Prop:=T.length<=m/\∀t∈T,t.1.length<=10000/\t.2.length<=m
theorem Zii.few {T:List Trm} (h:Zii m T) (b:m<=100000):Few T:=⟨Xy h.1 b,fun t a=>⟨(h.2 t a).1,Xy (h.2 t a).2 b⟩⟩
theorem Zii.mono {n:Nat} {T:List Trm} (h:Zii m T) (b:m<=n):Zii n T:=⟨Xy h.1 b,fun t a=>⟨(h.2 t a).1,Xy (h.2 t a).2 b⟩⟩
theorem Zuf:∀{l:List Trm} {s:Xu} {p:Int} {m:Nat},s.length<=10000->(∀t∈l,t.1.length<=10000/\t.2.length<=m)->∀t∈Zak l s p,t.1.length<=10000/\t.2.length<=m+1
 | [],s,p,m,hs,_=>by
   intro t a;simp only [Zak,XaJ] at a;subst a;exact ⟨hs,by simp⟩
 | u::r,s,p,m,hs,h=>by
   intro t a;have c:=h u (by simp);have b:∀v∈r,v.1.length<=10000/\v.2.length<=m:=fun v d=>h v (by simp [d]);rw [Zak] at a
   split at a
   ·rcases XT.1 a with rfl|a
    ·exact ⟨c.1,by omega⟩
    ·exact Zuf hs b t a
   ·split at a
    ·rcases XT.1 a with rfl|a
     ·exact ⟨hs,by rw [Xd];simp;exact c.2⟩
     ·exact ⟨(b t a).1,by have:=(b t a).2;omega⟩
    ·rcases XT.1 a with rfl|a
     ·exact ⟨hs,by simp⟩
     ·exact ⟨(h t a).1,by have:=(h t a).2;omega⟩
theorem Zii.add {T:List Trm} (h:Zii m T) {s:Xu} (p:Int) (hs:s.length<=10000):Zii (m+1) (Zak T s p) :=
 ⟨by have:=ZgR T s p;have:=h.1;omega,Zuf hs h.2⟩
theorem Zz3 (l:Xu):∀s∈Z4 l,s.length<=32:=fun s hs=>(TK.ZhZ l s hs).2
theorem Zp0 {fs:List Fld} (a:∀f∈fs,f.2.length<=4096):∀k,k<=fs.length->0<=ZaO (fs.take k)/\ZaO (fs.take k)<=4160*(k:Int)
 | 0,_=>by simp [ZaO]
 | k+1,h=>by
   have b:k<fs.length:=by omega
   have ih:=Zp0 a k (by omega);have h1:=Zag fs[k].2;have h2:=a fs[k] (XI b);rw [ZfZ b];push_cast;omega
theorem Zm3 (z:Int) (v:Value) (fs:List Fld) (w:World) (hr:ZF Zae w v fs):Calls prog 35 #[.agg #[.int .i64 z,v]] w (ZpU (Z1 (z,fs)) w):=by
 obtain ⟨p,y,rfl,a1,aN,_⟩:=hr.shape;unfold maxLen at aN;have ae:=Zbx w z (.slice p fs.length y);have I:=Y4 (ZmW z _ fs _ (hr.below ae));have aP:=Y4 ae;clear ae;obtain ⟨c,hc⟩:=Xn (ZH (z,fs));rw [hc] at I
 by_cases h0:c=0
 ·subst h0;have e0:Z1 (z,fs)=Zb6 fs:=by unfold Z1;rw [Xc (by simp [hc])]
  rw [e0];obtain ⟨az,C⟩:=ZaK.1 hc;have an:∀f∈fs,f.1.length<=4096:=fun f hf=>by have:=Zda (C f hf).1;omega
  have hx:∀f∈fs,f.2.length<=4096:=fun f hf=>(C f hf).2;have aV:=Y4 an;have HX:=Y4 hx;have HR:=Y4 hr;have aY:fs.length<=16:=by simpa using az
  clear e0 C hr hc an hx az;go_enter func35,ntmps35;go_wp2_with fail;refine I.z.mono ?_;rintro e w1 ⟨rfl,u⟩;obtain ⟨c0,c1,j⟩:=ZcR u;have aG:=Y4 u;have ao:Y5 (Zii (4096*0) (Zz [] (ZM 0 (fs.take 0)))):=Y4 (by simp [Zii,ZM,Zz]);have ay:Y5 (ZiX w.heap.size w1 (.slice none 0 0) (Zz [] (ZM 0 (fs.take 0)))):=Y4 (ZB.nil_ _ _);have au:Y5 ((0:Int)=ZaO (fs.take 0)):=Y4 (by simp [ZaO]);clear u j I;go_wp2_with fail
  go_loopw [3,4,5] (fun lv ev iv wr=>∃(i:Nat) (E:Int),i<=fs.length/\ev=.int .i64 E/\iv=.int .i64 i/\0<=E/\E<=100000/\Y5 (E=ZaO (fs.take i))/\Y5 (Zii (4096*i) (Zz [] (ZM 0 (fs.take i))))/\Y5 (ZiX w.heap.size wr lv (Zz [] (ZM 0 (fs.take i))))/\Y5 (Below (ZaZ w z (.slice p fs.length y)).heap.size (ZaZ w z (.slice p fs.length y)) wr)) (fun _ _ iv _=>fs.length - (intOf iv).toNat)
  case atStart=>exact ⟨0,0,by omega,rfl,rfl,by omega,by omega,au,ao,ay,aG⟩
  case round =>
   obtain ⟨i,E,hi,rfl,rfl,a2,a3,HE,HF,HU,HB⟩:=hrel;clear ao ay au aG c0 c1;obtain ⟨c0,c1,j⟩:=ZcR HB.z
   by_cases l:i<fs.length
   ·have q1:decide ((i:Int)<(fs.length:Int))=true:=Xt;have q2:decide (i<fs.length)=true:=Xt;obtain ⟨b,off,rfl,ap,_,d0,d1⟩:=ZeN HR.z l;have HD:=Y4 (fun W (H:Below w.heap.size w W)=>(show W.cell? ⟨b,off+i*2,none⟩=some (.string ⟨fs[i].1.toArray⟩) from (H.cell (p:=⟨b,off+i*2,none⟩) ap).trans d0));have d3:=(j.cell (p:=⟨b,off+i*2+1,none⟩) ap).trans d1;have a0:=HX.z fs[i] (XI l);have aS:=aV.z fs[i] (XI l);have X:=ZfZ l;have ad:=ZkQ l;have M:=(Zp0 HX.z (i+1) (by omega)).2;have a6:=Zag fs[i].2;have t:=Zz3 fs[i].2;have B:=fun W=>Zk1 ⟨fs[i].2.toArray⟩ W (by rw [ZaX];omega);simp only [ZcO] at B;rw [<- HE.z] at X ad;have hU:=HU.z;have L:=HF.z;generalize fs[i].1=q at *;generalize fs[i].2=tx at *;generalize Z4 tx=a at *;obtain ⟨U,aa⟩:=Xn (Zz [] (ZM 0 (fs.take i)));rw [aa] at hU L;have aM:Y5 (Zz [] (ZM 0 (fs.take (i+1)))=Zz U (Zac q a E)):=Y4 (by rw [ad,ZaT,aa]);have ah:E+(a.length:Int)+64=ZaO (fs.take (i+1)):=X.symm;have a5:E+(a.length:Int)+64<=100000:=by rw [ah];push_cast at M;omega
    have Z:a.length<=4096:=by omega
    have aB:=Y4 (B wr);have aX:=Y4 ah;have aO:=Y4 l;have aI:=Y4 t;have ak:=Y4 hU;have aw:=Y4 L;clear X ad M B l d0 d1 ah HE j hU L aa HU HF t;go_wp2_with fail;refine aB.z.mono ?_;rintro e w5 ⟨vt,rfl,J,R⟩;obtain ⟨pt,ct,rfl,aU,al⟩:=KIn.shape J;rw [ZbA] at aU J ⊢;unfold maxLen at al;have ar:Y5 (ZiX w.heap.size w5 u3 (Zz U (Zac q (a.take 0) E))):=Y4 (ak.z.below R);have aD:Y5 (Zii (4096*i+0) (Zz U (Zac q (a.take 0) E))):=Y4 aw.z;have av:=Y4 (HB.z.trans (R.mono HB.z.size));have ax:=Y4 J;clear J R aB HB c0 c1 d3 ak aw;go_wp2_with fail
    go_loopw [3,7] (fun lv kv wk=>∃k:Nat,k<=a.length/\kv=.int .i64 k/\Y5 (Zii (4096*i+k) (Zz U (Zac q (a.take k) E)))/\Y5 (ZiX w.heap.size wk lv (Zz U (Zac q (a.take k) E)))/\Y5 (Below (ZaZ w z (.slice (some ⟨b,off,none⟩) fs.length y)).heap.size (ZaZ w z (.slice (some ⟨b,off,none⟩) fs.length y)) wk)/\Y5 (Zik wk (.slice pt a.length ct) (ZdV a))) (fun _ kv _=>a.length - (intOf kv).toNat)
    case atStart=>exact ⟨0,by omega,rfl,aD,ar,av,ax⟩
    case round =>
     obtain ⟨k,hk,rfl,ac,S,A,ab⟩:=hrel;clear aD ar av ax
     by_cases r:k<a.length
     ·have r1:decide ((k:Int)<(a.length:Int))=true:=Xt;have r2:decide (k<a.length)=true:=Xt;obtain ⟨c0,c1,j⟩:=ZcR A.z;obtain ⟨g,o,rfl,T,t0,t1⟩:=KIn.at_ ab.z (k:=k) (by rw [ZbA];exact r);rw [Zjn] at t0 t1;have aT:=aI.z a[k] (XI r);have aA:=ZkS q r E;generalize a[k]=x at *;dsimp only at t0 t1;have d0:=HD.z _ j;have hU:=S.z;have L:=ac.z;have Y:Zz U (Zac q (a.take (k+1)) E)=Zak (Zz U (Zac q (a.take k) E)) (q++58::x) (E+(k:Int)):=by rw [aA,ZaT];rfl
      obtain ⟨V,hV⟩:=Xn (Zz U (Zac q (a.take k) E));rw [hV] at hU L Y
      have D:(⟨q.toArray⟩:ByteArray)++⟨#[58]⟩++⟨x.toArray⟩=⟨(q++58::x).toArray⟩:=by
       rw [show (⟨#[58]⟩:ByteArray)=⟨[58].toArray⟩ from rfl,ZfE,ZfE,Xk];rfl
      have a4:(⟨q.toArray⟩:ByteArray).size<=4096:=by rw [ZaX];exact aS
      have aZ:(⟨x.toArray⟩:ByteArray).size<=32:=by rw [ZaX];exact aT
      have aE:(q++58::x).length<=10000:=by rw [Xd,Xh];omega
      have af:=Y4 Y;have aC:=Y4 r;go_wp2_with fail;refine RG.Zal [(0,true),(1,true),(2,true),(3,true),(4,true),(5,true),(6,true),(7,true),(8,true),(9,true),(10,true),(11,true),(12,true),(13,true),(14,true),(15,true),(16,true),(17,true),(18,true),(19,true),(20,true),(21,false),(22,true)] (by kernel_rfl) (by kernel_rfl) rfl (by kernel_rfl) (fun _ _ d _ _ h=>by cases d<;>exact h) ?_;simp only [RG.Zt,XC,XN,XU,XV,XS];obtain ⟨wd,t⟩:=Xn wr.drew;have n:Below wr.heap.size wr wd:=by rw [<- t];exact (Below.refl _ _).drew
      have Z:w.heap.size<wr.heap.size:=by have:=A.z.size;rw [ZbX] at this;omega
      have O:b<wr.heap.size:=by omega
      have G:=Y4 (fun W (H:Below wd.heap.size wd W)=>(show W.cell? ⟨w.heap.size,1,none⟩=some (.slice (some ⟨b,off,none⟩) fs.length y)/\W.cell? ⟨b,off+i*2,none⟩=some (.string ⟨q.toArray⟩)/\W.cell? ⟨g,o+k*2,none⟩=some (.string ⟨x.toArray⟩)/\W.cell? ⟨g,o+k*2+1,none⟩=some (.int .i64 (k:Int)) from
       ⟨((grow n H).cell (p:=⟨w.heap.size,1,none⟩) Z).trans c1,((grow n H).cell (p:=⟨b,off+i*2,none⟩) O).trans d0,((grow n H).cell (p:=⟨g,o+k*2,none⟩) T).trans t0,((grow n H).cell (p:=⟨g,o+k*2+1,none⟩) T).trans t1⟩))
      have aL:Y5 (w.heap.size<=wd.heap.size):=Y4 (by have:=n.size;omega);have F:=Y4 (ZBF (fun b=>w.heap.size<=b) u3 V (q++58::x) (E+(k:Int)) wd (hU.below n) (L.few (by omega)) aE);have aF:=Y4 (L.add (E+(k:Int)) aE);have ag:=Y4 (A.z.trans (n.mono A.z.size));have aq:=Y4 (Zik.below ab.z n);change RG.walk _ _ _ _ _ wr.drew;rw [t];clear t n Z O c0 c1 d0 t0 t1 T hU L Y hV j r aA ac S A ab;repeat (refine RG.take (by rfl) (by intro W H;obtain ⟨f1,f2,f3,f4⟩:=G.z W H;go_simp;first|with_reducible rfl|(rw [Xc (by omega)])|(rw [Xe aC.z])) ?_;simp only [Act.put,Xm,Xo,Xl])
      have N:IntKind.i64.wrap (E+(k:Int))=E+(k:Int):=by rw [IntWalk.i64_left];exact IntWalk.wrap64_in _ ⟨by omega,by omega⟩
      try rw [N]
      clear N;try rw [D]
      refine RG.alone (by rfl) (fun K hK => ?_);go_simp;try rw [D]
      refine F.z.mono ?_;rintro e w7 ⟨lw,rfl,aj,s⟩;go_simp;refine hK.z _ _ s ?_;clear hK K;have aH:Y5 (Zii (4096*i+(k+1)) (Zz U (Zac q (a.take (k+1)) E))):=Y4 (by rw [af.z];exact aF.z);have aJ:Y5 (ZiX w.heap.size w7 lw (Zz U (Zac q (a.take (k+1)) E))):=Y4 (by rw [af.z];exact ZiX.of aL.z aj);have aQ:=Y4 (ag.z.trans (s.mono ag.z.size));have aK:=Y4 (Zik.below aq.z s);clear aj s F aF ag aq af D;repeat (refine RG.take (by rfl) (by intro W H;go_simp;with_reducible rfl) ?_;simp only [Act.put,Xm,Xo,Xl])
      refine RG.done ?_;clear G;go_wp2_with fail;have r:=aC.z;go_roundw
      case rel=>exact ⟨k+1,by omega,by go_num,aH,aJ,aQ,aK⟩
      case measure=>simp [intOf];omega
     ·obtain rfl:k=a.length:=by omega
      have r1:decide ((a.length:Int)<(a.length:Int))=false:=by simp
      have r2:decide (a.length<a.length)=false:=by simp
      have hu:=S.z;have hf:=ac.z;rw [XB,<- aM.z] at hu hf;have ai:=Y4 hu;have aW:Y5 (Zii (4096*(i+1)) (Zz [] (ZM 0 (fs.take (i+1))))):=Y4 (hf.mono (by omega));clear r hu hf;go_wp2_with fail;have l:=aO.z;go_roundw
      case rel=>exact ⟨i+1,E+(a.length:Int)+64,by omega,rfl,by go_num,by omega,by omega,aX,aW,ai,A⟩
      case measure=>simp [intOf];omega
   ·obtain rfl:i=fs.length:=by omega
    have q1:decide ((fs.length:Int)<(fs.length:Int))=false:=by simp
    have q2:decide (fs.length<fs.length)=false:=by simp
    have hu:=HU.z;rw [XB] at hu;have ai:=Y4 hu;have am:=Y4 j;clear l hu j c0;go_wp2_with fail;go_ret;exact ⟨_,rfl,ai.z,am.z⟩
 ·have t1:(c != 0)=true:=by simp [h0]
  have e0:Z1 (z,fs)=[]:=by unfold Z1;rw [Xe (by rw [hc];exact h0)]
  rw [e0];clear hc h0 e0 hr;go_enter func35,ntmps35;go_wp2_with fail;refine I.z.mono ?_;rintro e w1 ⟨rfl,u⟩;have aR:=Y4 (grow aP.z u);clear u;go_wp2_with fail;go_ret;exact ⟨_,rfl,ZB.nil_ _ _,aR.z⟩
