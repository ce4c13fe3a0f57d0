import Derived.Test.YtdijhifdjbnkfaaGreatZT36
import Derived.Test.YtdijhifdjbnkfaaGreatZT35
set_option maxRecDepth 100000
set_option maxHeartbeats 0
set_option linter.unusedVariables false
set_option linter.unusedSimpArgs false
namespace Go.Proofs.YtdijhifdjbnkfaaGreat
open Lib (hid)
open Tryz
namespace ST
open RowKit MM EM SM VM VP GB
open EV (ZA evC Z8 Zad ZcF ZbP ZfV ZiX)
theorem Za4 (v:Value) (l:Xu) (n:Int) (w:World) (B:0<=n) (h1:n<=9223372036854775807) (b:Zd 0 w v l) (x:l.length<=1000000000000) :
  Calls prog 137 #[v,.int .i64 n] w (Zlp (l++Zb n.toNat) v w):=by
 obtain ⟨m,rfl⟩:=XaK B;rw [XT];have a:=VP.Zdg (.slice none 0 0) [] m w (by omega) (Zq.nil_ w) (by simp);rw [Xz] at a;have j:=Zc m;have d:=Zaz m;obtain ⟨M,y⟩:=Xn (Zb m);rw [y] at a j d ⊢;have z:=hid a;have u:=hid b;have r:=hid d;have hw:IntKind.u64.wrap (m:Int)=(m:Int):=by rw [IntKind.wrap_u64];omega
 obtain ⟨p,A,rfl,_⟩:=(Zd.brow b).shape;clear a b y d;go_enter func137,ntmps137;go_wp2_with fail;refine z.out.mono ?_;rintro e w1 ⟨v1,rfl,f,c⟩;have o:=hid (u.out.keep c);have t:=hid (Zd.brow f);have s:=hid c;have i:=hid (Zaw u.out);obtain ⟨p1,c1,rfl,_⟩:=(Zd.brow f).shape;clear f c z;go_wp2_with (at_builtin;refine Zl rfl _ _ rfl _ l rfl o.out _ M rfl t.out r.out (by omega) ?_)
 intro v2 w2 g h;have q:=hid g;have k:=hid (h.of_below s.out i.out);clear g h;go_wp2_with fail;go_ret;exact ⟨_,rfl,q.out,k.out⟩
theorem ZpO (v:Value) (c:List Zo) (a:Int) (w:World) (hv:ZN ZA w v c) (hr:isR a c=true) (hf:ZaH c) (h0:0<=a) (hn:c.length<=16) :
  Calls prog 136 #[v,.int .i64 a] w (ZS w.heap.size (ZbY a c) w):=by
 obtain ⟨p,ay,rfl,aA,ap,_⟩:=hv.shape;unfold maxLen at ap;have HR:=hid hr;have HF:=hid hf;have HV:=hid hv;have ai:Hid (ZbY a (c.take c.length)=ZbY a c):=hid (by rw [XC]);have aa:Hid (Zd w.heap.size w (.slice none 0 0) (ZbY a (c.take 0))):=hid (World.ownsRow_nil _ _ _ _);have ad:=hid (Below.refl w.heap.size w);have an:Hid (Za5 a (c.take 0)=a):=hid rfl;clear hr hf hv;go_enter func136,ntmps136;go_wp2_with fail
 go_loopw [1,5,12] (fun av bv iv wr=>∃(i:Nat) (A:Int),i<=c.length/\iv=.int .i64 i/\av=.int .i64 A/\Hid (Za5 a (c.take i)=A)/\Hid (Zd w.heap.size wr bv (ZbY a (c.take i)))/\Hid (Below w.heap.size w wr)) (fun _ _ iv _=>c.length - (intOf iv).toNat)
 case atStart=>exact ⟨0,a,by omega,rfl,rfl,an,aa,ad⟩
 case round =>
  obtain ⟨i,A,hi,rfl,rfl,HA,T,Y⟩:=hrel;clear aa ad an
  by_cases h:i<c.length
  ·have q1:decide ((i:Int)<(c.length:Int))=true:=Xt;have q2:decide (i<c.length)=true:=Xt;have q3:(i:Int)<(c.length:Int):=by omega
   obtain ⟨b,off,vf,rfl,ax,_,c1,c2,c3,J⟩:=Zad (ZN.below HV.out Y.out) h;have aj:=ZCn HR.out h;have m:=HF.out c[i] (XH h);have au:=Zle (Zmu HR.out i);have f:=ZnB a h;have ah:=ZjT a h;have R:=ZpJ (Zmu HR.out i);rw [Xi] at R;rw [HA.out] at aj f au;generalize c[i]=X at *;obtain ⟨t,⟨s,fs⟩⟩:=X;dsimp only at *;obtain ⟨aB,z,C⟩:=aj;obtain ⟨pf,cf,rfl,_⟩:=J.shape;obtain ⟨L,hL⟩:=Xn (ZbY a (c.take i));rw [hL] at f T R;have aC:L.length<=1200000:=by omega
   obtain ⟨n,aw⟩:=Xn ((t - A - 1).toNat);rw [aw] at f;have aE:IntKind.i64.wrap (t - A)=t - A:=by rw [IntKind.wrap_i64];omega
   have aD:IntKind.i64.wrap (t - A - 1)=(n:Int):=by rw [IntKind.wrap_i64];omega
   have az:=(Zc n).2;have B:=ZqI (x:=(t,(s,fs))) n C;rw [Xd] at B;have al:ZfV [] (s,fs)=ZZ (s,fs):=by unfold ZfV;rw [Xe C,Xz]
   have l:=ZnD (s,fs);have d:=fun W hW=>ZiX (.slice none 0 0) [] s (.slice pf fs.length cf) fs W (Zq.nil_ W) (by simp) hW m.1 m.2;simp only [al,C] at d;obtain ⟨EB,ac⟩:=Xn (ZZ (s,fs));dsimp only at B;rw [ac] at d B f l;obtain ⟨q,hq⟩:=Xn wr.heap.size;obtain ⟨pb,cb,rfl,_⟩:=(Zd.brow T.out).shape;obtain ⟨w0,j⟩:=Xn (wr.alloc (.cells #[.int .i64 t,.int .i64 s,.slice pf fs.length cf] 59));have r:Below wr.heap.size wr w0:=by rw [<- j];exact (Below.refl _ _).alloc (Xc _) _
   have V:Hid (Zb6 w.heap.size q w w0 (.slice pb L.length cb) L):=hid ⟨T.out.keep r,Y.out.trans (r.mono Y.out.size),by have:=Y.out.size;have:=r.size;omega,by rw [<- j,<- hq];simp,fun g hg=>by have:=(World.ownsRow.lt T.out g hg).2;omega⟩;have T0:Hid (Three w0 q 59 (.int .i64 t) (.int .i64 s) (.slice pf fs.length cf)):=hid (by rw [<- j,<- hq];exact ZaE wr 59 _ _ _);have Z:=hid (d w0 (ZN.below J.any r));have HN:=hid f;have HE:=hid ah;have aq:=hid l;have E:Hid (L.length+(Zb n).length+EB.length<=2000000):=hid (by omega);have ar:=hid j;obtain ⟨f0,f1,f2⟩:=T0.out.cells;rw [<- j] at f0 f1 f2;clear j r T Y hL J d f ah R ac l B al C m HA;go_wp2_with fail;rw [ar.out];refine Z.out.mono ?_;rintro e w1 ⟨v1,rfl,o,H⟩;have I:=hid (V.out.below H);have t1:=T0.out.below H T0.out.lt;have T1:=hid t1;obtain ⟨g0,g1,g2⟩:=t1.cells;have U:=hid o;obtain ⟨p1,k1,rfl,_⟩:=(Zd.brow o).shape;have af:Hid (∀k,(Value.slice pb L.length cb).ownBlock=some k->k<w0.heap.size):=hid (Zaw V.out.1);have G:=hid (Za4 (.slice pb L.length cb) L (n:Int) w1 (by omega) (by omega) (Zd.zero I.out.1) (by omega));rw [XT] at G;clear o H t1 V T0 Z f0 f1 f2;go_wp2_with fail;refine G.out.mono ?_;rintro e w2 ⟨v2,rfl,z,O⟩;obtain ⟨D,ak⟩:=I.out.grown z O;have y:=hid D;have t2:Three w2 q 59 (.int .i64 t) (.int .i64 s) (.slice pf fs.length cf):=ak.trans T1.out;have T2:=hid t2;have ae:=hid (Zd.brow (Zd.kepOwn U.out O.kep (fun k hk e=>by have:=af.out k e;have:=(World.ownsRow.lt U.out k hk).1;omega)));obtain ⟨p2,k2,rfl,_⟩:=(Zd.brow z).shape;obtain ⟨L1,u⟩:=Xn (L++Zb n);have N:Hid (L1.length+EB.length<=2000000):=hid (by rw [<- u,Xd];exact E.out);have ag:=HN;rw [<- Xl,u] at ag;rw [u] at y ⊢;clear z O D ak t2 I T1 G U af u HN E g0 g1 g2;go_wp2_with (at_builtin;go_loud (refine Zl rfl _ _ rfl _ L1 rfl (Zd.zero y.out.1) _ EB rfl ae.out aq.out (by have:=N.out;omega) ?_;intro v4 w4 ab am;have M:=y.out.grown ab am;have F:=hid M.1;have T4:Hid (Three w4 q 59 (.int .i64 t) (.int .i64 s) (.slice pf fs.length cf)):=hid (M.2.trans T2.out);clear M ab am y T2 ae;obtain ⟨e0,e1,e2⟩:=T4.out.cells))
   rw [<- ag.out] at F;have S:=hid F.out.1;have ao:=hid F.out.2.1;go_roundw
   case rel=>exact ⟨i+1,t,by omega,by go_num,rfl,HE,S,ao⟩
   case measure=>simp [intOf];omega
  ·obtain rfl:i=c.length:=by omega
   have q1:decide ((c.length:Int)<(c.length:Int))=false:=by simp
   have q2:decide (c.length<c.length)=false:=by simp
   have ho:=T.out;rw [ai.out] at ho;have S:=hid ho;clear ho T h HA;go_wp2_with fail;go_ret;exact ⟨_,rfl,S.out,Y.out⟩
