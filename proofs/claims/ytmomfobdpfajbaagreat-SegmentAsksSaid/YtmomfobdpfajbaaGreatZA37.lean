import Derived.Test.YtmomfobdpfajbaaGreatZA34
import Derived.Test.YtmomfobdpfajbaaGreatZA36
set_option maxRecDepth 100000
set_option maxHeartbeats 0
set_option linter.unusedVariables false
set_option linter.unusedSimpArgs false
namespace Go.Proofs.YtmomfobdpfajbaaGreat
open Tryz
namespace ST
open RowKit MM EM SM VM VP GB
open EV (ZD evC Zae Z2 ZbT ZbJ ZfS Zi4)
theorem Za5 (v:Value) (l:Xu) (n:Int) (w:World) (A:0<=n) (h1:n<=9223372036854775807) (b:Zd 0 w v l) (x:l.length<=1000000000000) :
  Calls prog 137 #[v,.int .i64 n] w (Zlp (l++Zb n.toNat) v w):=by
 obtain ⟨m,rfl⟩:=Xay A;rw [XY];have a:=VP.Zdd (.slice none 0 0) [] m w (by omega) (Zv.nil_ w) (by simp);rw [XE] at a;have s:=Zc m;have c:=Zaz m;obtain ⟨M,u⟩:=Xn (Zb m);rw [u] at a s c ⊢;have z:=Y4 a;have y:=Y4 b;have r:=Y4 c;have hw:IntKind.u64.wrap (m:Int)=(m:Int):=by rw [IntKind.wrap_u64];omega
 obtain ⟨p,B,rfl,_⟩:=(Zd.brow b).shape;clear a b u c;go_enter func137,ntmps137;go_wp2_with fail;refine z.z.mono ?_;rintro e w1 ⟨v1,rfl,d,f⟩;have i:=Y4 (y.z.keep f);have o:=Y4 (Zd.brow d);have q:=Y4 f;have t:=Y4 (Zaw y.z);obtain ⟨p1,c1,rfl,_⟩:=(Zd.brow d).shape;clear d f z;go_wp2_with (at_builtin;refine Zn rfl _ _ rfl _ l rfl i.z _ M rfl o.z r.z (by omega) ?_)
 intro v2 w2 g h;have k:=Y4 g;have j:=Y4 (h.of_below q.z t.z);clear g h;go_wp2_with fail;go_ret;exact ⟨_,rfl,k.z,j.z⟩
theorem Zp8 (v:Value) (c:List Zq) (a:Int) (w:World) (hv:ZF ZD w v c) (hr:isR a c=true) (hf:ZaS c) (h0:0<=a) (hn:c.length<=16) :
  Calls prog 136 #[v,.int .i64 a] w (ZV w.heap.size (ZbW a c) w):=by
 obtain ⟨p,aB,rfl,ax,ao,_⟩:=hv.shape;unfold maxLen at ao;have HR:=Y4 hr;have HF:=Y4 hf;have HV:=Y4 hv;have aa:Y5 (ZbW a (c.take c.length)=ZbW a c):=Y4 (by rw [XB]);have an:Y5 (Zd w.heap.size w (.slice none 0 0) (ZbW a (c.take 0))):=Y4 (World.ownsRow_nil _ _ _ _);have ab:=Y4 (Below.refl w.heap.size w);have ae:Y5 (Za6 a (c.take 0)=a):=Y4 rfl;clear hr hf hv;go_enter func136,ntmps136;go_wp2_with fail
 go_loopw [1,5,12] (fun av bv iv wr=>∃(i:Nat) (A:Int),i<=c.length/\iv=.int .i64 i/\av=.int .i64 A/\Y5 (Za6 a (c.take i)=A)/\Y5 (Zd w.heap.size wr bv (ZbW a (c.take i)))/\Y5 (Below w.heap.size w wr)) (fun _ _ iv _=>c.length - (intOf iv).toNat)
 case atStart=>exact ⟨0,a,by omega,rfl,rfl,ae,an,ab⟩
 case round =>
  obtain ⟨i,A,hi,rfl,rfl,HA,S,Y⟩:=hrel;clear an ab ae
  by_cases f:i<c.length
  ·have q1:decide ((i:Int)<(c.length:Int))=true:=Xt;have q2:decide (i<c.length)=true:=Xt;have q3:(i:Int)<(c.length:Int):=by omega
   obtain ⟨b,off,vf,rfl,az,_,c1,c2,c3,V⟩:=Z2 (ZF.below HV.z Y.z) f;have af:=ZCB HR.z f;have r:=HF.z c[i] (XI f);have au:=Zlh (Zmt HR.z i);have h:=ZnG a f;have Z:=ZjV a f;have I:=Zp3 (Zmt HR.z i);rw [Xi] at I;rw [HA.z] at af h au;generalize c[i]=X at *;obtain ⟨s,⟨t,fs⟩⟩:=X;dsimp only at *;obtain ⟨aA,C,u⟩:=af;obtain ⟨pf,cf,rfl,_⟩:=V.shape;obtain ⟨L,hL⟩:=Xn (ZbW a (c.take i));rw [hL] at h S I;have aD:L.length<=1200000:=by omega
   obtain ⟨n,aq⟩:=Xn ((s - A - 1).toNat);rw [aq] at h;have aE:IntKind.i64.wrap (s - A)=s - A:=by rw [IntKind.wrap_i64];omega
   have ay:IntKind.i64.wrap (s - A - 1)=(n:Int):=by rw [IntKind.wrap_i64];omega
   have aC:=(Zc n).2;have z:=Zq3 (x:=(s,(t,fs))) n u;rw [Xd] at z;have ac:ZfS [] (t,fs)=Z0 (t,fs):=by unfold ZfS;rw [Xe u,XE]
   have o:=ZnI (t,fs);have d:=fun W hW=>Zi4 (.slice none 0 0) [] t (.slice pf fs.length cf) fs W (Zv.nil_ W) (by simp) hW r.1 r.2;simp only [ac,u] at d;obtain ⟨EB,am⟩:=Xn (Z0 (t,fs));dsimp only at z;rw [am] at d z h o;obtain ⟨q,hq⟩:=Xn wr.heap.size;obtain ⟨pb,cb,rfl,_⟩:=(Zd.brow S.z).shape;obtain ⟨w0,j⟩:=Xn (wr.alloc (.cells #[.int .i64 s,.int .i64 t,.slice pf fs.length cf] 59));have m:Below wr.heap.size wr w0:=by rw [<- j];exact (Below.refl _ _).alloc (Xa _) _
   have G:Y5 (Zb5 w.heap.size q w w0 (.slice pb L.length cb) L):=Y4 ⟨S.z.keep m,Y.z.trans (m.mono Y.z.size),by have:=Y.z.size;have:=m.size;omega,by rw [<- j,<- hq];simp,fun g hg=>by have:=(World.ownsRow.lt S.z g hg).2;omega⟩;have T0:Y5 (Three w0 q 59 (.int .i64 s) (.int .i64 t) (.slice pf fs.length cf)):=Y4 (by rw [<- j,<- hq];exact Zaj wr 59 _ _ _);have ah:=Y4 (d w0 (ZF.below V.any m));have HN:=Y4 h;have HE:=Y4 Z;have aw:=Y4 o;have E:Y5 (L.length+(Zb n).length+EB.length<=2000000):=Y4 (by omega);have ar:=Y4 j;obtain ⟨f0,f1,f2⟩:=T0.z.cells;rw [<- j] at f0 f1 f2;clear j m S Y hL V d h Z I am o z ac u r HA;go_wp2_with fail;rw [ar.z];refine ah.z.mono ?_;rintro e w1 ⟨v1,rfl,l,N⟩;have R:=Y4 (G.z.below N);have t1:=T0.z.below N T0.z.lt;have T1:=Y4 t1;obtain ⟨g0,g1,g2⟩:=t1.cells;have F:=Y4 l;obtain ⟨p1,k1,rfl,_⟩:=(Zd.brow l).shape;have aj:Y5 (∀k,(Value.slice pb L.length cb).ownBlock=some k->k<w0.heap.size):=Y4 (Zaw G.z.1);have J:=Y4 (Za5 (.slice pb L.length cb) L (n:Int) w1 (by omega) (by omega) (Zd.zero R.z.1) (by omega));rw [XY] at J;clear l N t1 G T0 ah f0 f1 f2;go_wp2_with fail;refine J.z.mono ?_;rintro e w2 ⟨v2,rfl,C,T⟩;obtain ⟨D,ag⟩:=R.z.grown C T;have y:=Y4 D;have t2:Three w2 q 59 (.int .i64 s) (.int .i64 t) (.slice pf fs.length cf):=ag.trans T1.z;have T2:=Y4 t2;have ai:=Y4 (Zd.brow (Zd.kepOwn F.z T.kep (fun k hk e=>by have:=aj.z k e;have:=(World.ownsRow.lt F.z k hk).1;omega)));obtain ⟨p2,k2,rfl,_⟩:=(Zd.brow C).shape;obtain ⟨L1,B⟩:=Xn (L++Zb n);have U:Y5 (L1.length+EB.length<=2000000):=Y4 (by rw [<- B,Xd];exact E.z);have ad:=HN;rw [<- Xk,B] at ad;rw [B] at y ⊢;clear C T D ag t2 R T1 J F aj B HN E g0 g1 g2;go_wp2_with (at_builtin;go_loud (refine Zn rfl _ _ rfl _ L1 rfl (Zd.zero y.z.1) _ EB rfl ai.z aw.z (by have:=U.z;omega) ?_;intro v4 w4 ak al;have M:=y.z.grown ak al;have H:=Y4 M.1;have T4:Y5 (Three w4 q 59 (.int .i64 s) (.int .i64 t) (.slice pf fs.length cf)):=Y4 (M.2.trans T2.z);clear M ak al y T2 ai;obtain ⟨e0,e1,e2⟩:=T4.z.cells))
   rw [<- ad.z] at H;have O:=Y4 H.z.1;have ap:=Y4 H.z.2.1;go_roundw
   case rel=>exact ⟨i+1,s,by omega,by go_num,rfl,HE,O,ap⟩
   case measure=>simp [intOf];omega
  ·obtain rfl:i=c.length:=by omega
   have q1:decide ((c.length:Int)<(c.length:Int))=false:=by simp
   have q2:decide (c.length<c.length)=false:=by simp
   have ho:=S.z;rw [aa.z] at ho;have O:=Y4 ho;clear ho S f HA;go_wp2_with fail;go_ret;exact ⟨_,rfl,O.z,Y.z⟩
