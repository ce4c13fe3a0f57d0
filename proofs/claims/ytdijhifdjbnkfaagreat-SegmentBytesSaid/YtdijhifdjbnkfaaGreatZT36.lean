import Derived.Test.YtdijhifdjbnkfaaGreatZT14
import Derived.Test.YtdijhifdjbnkfaaGreatZT11
import Derived.Test.YtdijhifdjbnkfaaGreatZT9
set_option maxRecDepth 100000
set_option maxHeartbeats 0
set_option linter.unusedVariables false
set_option linter.unusedSimpArgs false
namespace Go.Proofs.YtdijhifdjbnkfaaGreat
open Lib (hid)
open Tryz
namespace EV
open RowKit MM EM VM GB
open VP
theorem Zy6 (t:Xu) (ht:t.length<=4096) (W:World):Calls prog 145 #[.string ⟨t.toArray⟩] W (ZS W.heap.size (Z1 t) W):=by
 have h:=Zoz ⟨t.toArray⟩ W (by rw [Zbh];omega);rw [Zd7] at h;exact h
theorem Zb3 {B:Nat} {wr w':World} {u u':Value} {L f:Xu} (g:B<=wr.heap.size) (h:Zd B wr u L) (c:Grown wr w' u u') (b:Zd 0 w' u' f):Zd B w' u' f/\Below B wr w':=by
 have d:∀k,u.ownBlock=some k->B<=k:=fun k a=>(World.ownsRow.lt h k a).1;refine ⟨Zd.from b fun k a => ?_,c.kep.below g fun k a e=>by have:=d k e;omega⟩;rcases c.2 k a with e|e
 ·exact d k e
 ·omega
theorem ZkP (z:Int) (u:Value) (fs:List Fld) (w:World) (hr:ZN Z8 w u fs) (h0 : -9223372036854775808<=z) (h1:z<=9223372036854775807) (aG:fs.length<=16) (hx:∀f∈fs,f.1.length<=4096/\f.2.length<=4096) :
  Calls prog 88 #[.agg #[.int .i64 z,u]] w (ZS w.heap.size (ZZ (z,fs)) w):=by
 have aW:prog.follows .mixedOrders=true:=by kernel_rfl
 obtain ⟨p,j,rfl,aY,aO,_⟩:=hr.shape;unfold maxLen at aO;obtain ⟨c,D⟩:=Xn (Za1 w z (.slice p fs.length j));have S:=ZbB w z (.slice p fs.length j);have m:=ZbZ w z (.slice p fs.length j);have az:=fun W (h:Below c.heap.size c W)=>ZcR (w:=w) (wr:=W) (z:=z) (v:=.slice p fs.length j) (by rw [D];exact h);rw [D] at S m;have ac:=hid (fits fs.length [] fs z aG hx (by simp));have HX:=hid hx;have HR:=hid hr;have aX:=hid S;have R:=hid az;have aM:=hid D;have ay:Hid (ZaY z++Zb fs.length++ZK (fs.take fs.length)=ZZ (z,fs)):=hid (by rw [XC];unfold ZZ;simp);clear hr hx S az;go_enter func88,ntmps88;go_wp2_with fail;refine RK.ZaF (T:=fun k=>k<c.heap.size) [(0,true),(1,true),(3,true),(4,true),(5,true),(6,true),(2,false),(7,false),(8,false),(9,true)] (by kernel_rfl) (by kernel_rfl) rfl (by kernel_rfl) (fun _ _ d _ _ h=>by cases d<;>exact h) ?_;simp only [RK.Zy,XF,XV,XZ,X4,XX];change RK.walk _ _ _ _ _ _ (Za1 w z (.slice p fs.length j)).drew;rw [aM.out];obtain ⟨wd,M⟩:=Xn c.drew;have r:Below c.heap.size c wd:=by rw [<- M];exact (Below.refl _ _).drew
 have N:=R.out _ r;have x:=r.size
 have G:=hid (fun W (hW:Kep (fun k=>k<c.heap.size) wd W)=>(show W.cell? ⟨w.heap.size,0,none⟩=some (.int .i64 z)/\W.cell? ⟨w.heap.size,1,none⟩=some (.slice p fs.length j) from
  ⟨(hW.cell (by omega) (by omega) 0).trans N.1,(hW.cell (by omega) (by omega) 1).trans N.2.1⟩))
 have ar:=hid r;have aI:=hid m;clear m;rw [M];clear M r N;repeat (refine RK.take (by rfl) (by intro W hW;obtain ⟨f1,f2⟩:=G.out W hW;go_simp;with_reducible rfl) ?_;simp only [Act.put,Xr,Xs,Xq])
 have K1:=hid (ZmT z wd h0 h1);refine RK.alone (by rfl) (fun K B => ?_);go_simp;refine K1.out.mono ?_;rintro e w1 ⟨v1,rfl,ak,q⟩;go_simp;refine B.out _ _ (Za _ q) ?_;clear B K K1;have O:c.heap.size<=w1.heap.size:=Xx x q.size;have ap:=hid (Zd.weaken ak x);have af:=hid (ar.out.trans (q.mono x));clear ak q;have K2:=hid (ZcX fs.length w1 (by omega));refine RK.alone (by rfl) (fun K B => ?_);go_simp;rw [show IntKind.u64.wrap (fs.length:Int)=(fs.length:Int) by rw [IntKind.wrap_u64];omega];refine K2.out.mono ?_;rintro e w2 ⟨v2,rfl,aq,o⟩;go_simp;refine B.out _ _ (Za _ o) ?_;clear B K K2;have aD:c.heap.size<=w2.heap.size:=Xx O o.size;have t:=hid (ap.out.keep o);have aF:=hid aq;have av:=hid (af.out.trans (o.mono O));clear aq o;refine RK.alone (by rfl) (fun K B => ?_);refine Zeg _ _ rfl v1 (ZaY z) rfl (GB.Zd.zero t.out) _ (Zb fs.length) rfl aF.out.brow (Zaz _) (by have:=ac.out 0;simp only [Xd] at this;omega) ?_;intro v3 w3 aB U;refine B.out _ _ (U.kep.mono fun k hk e=>absurd (World.ownsRow.lt t.out k e).1 (Nat.not_le.2 hk)) ?_;clear B K;obtain ⟨ae,an⟩:=Zb3 aD t.out U aB;have ax:Hid (Zd c.heap.size w3 v3 (ZaY z++Zb fs.length++ZK (fs.take 0))):=hid (by rw [show ZaY z++Zb fs.length++ZK (fs.take 0)=ZaY z++Zb fs.length by simp [EM.ZK]];exact ae);have ad:=hid (av.out.trans an);clear aB U ae an ap t aF af av;repeat (refine RK.take (by rfl) (by intro W hW;go_simp;with_reducible rfl) ?_;simp only [Act.put,Xr,Xs,Xq])
 refine RK.done ?_;clear G x ar O aD;go_wp2_with fail
 go_loopw [3,4] (fun bv iv wr=>∃k:Nat,k<=fs.length/\iv=.int .i64 k/\Hid (Zd c.heap.size wr bv (ZaY z++Zb fs.length++ZK (fs.take k)))/\Hid (Below c.heap.size c wr)) (fun _ iv _=>fs.length - (intOf iv).toNat)
 case atStart=>exact ⟨0,by omega,rfl,ax,ad⟩
 case round =>
  obtain ⟨k,hk,rfl,HOk,s⟩:=hrel;clear ax ad;obtain ⟨d0,d1,a⟩:=R.out _ s.out;have aJ:=s.out.size
  by_cases g:k<fs.length
  ·have q1:decide ((k:Int)<(fs.length:Int))=true:=Xt;have q2:decide (k<fs.length)=true:=Xt;have q3:(k:Int)<(fs.length:Int):=by omega
   obtain ⟨b,off,rfl,Z,_,c1,c2⟩:=ZeR HR.out g;have e1:=(a.cell (p:=⟨b,off+k*2,none⟩) Z).trans c1;have aK:=hid c2;have aa:=HX.out fs[k] (XH g);have C:=Zku g;have I:=ac.out (k+1);rw [C,Xz] at I;generalize fs[k].1=nm at *;generalize fs[k].2=tx at *;have H:ZaY z++Zb fs.length++ZK (fs.take (k+1))=ZaY z++Zb fs.length++ZK (fs.take k)++Z1 nm++Z1 tx:=by rw [C];simp
   obtain ⟨L,hL⟩:=Xn (ZaY z++Zb fs.length++ZK (fs.take k));have y:(L++Z1 nm++Z1 tx).length<=1001000000:=by rw [<- hL];simp only [Xd] at I ⊢;omega
   rw [hL] at H;have J:=HOk.out;rw [hL] at J;have A:=hid J;have aR:=hid H;have am:=hid (Zy6 nm aa.1 wr);have ag:=hid (fun W=>Zy6 tx aa.2 W);have aH:=hid g;have aV:=hid a;clear C I hL J H HOk g c1 c2 a;go_wp2_with fail;refine am.out.mono ?_;rintro e w5 ⟨v5,rfl,aA,V⟩;have Y:=hid aA;have aj:=hid (A.out.keep V);have l:=s.out.trans (V.mono aJ);have ao:=hid l;have au:=l.size;clear aA V l am s d0 d1 e1 aV A;go_wp2_with (at_builtin;go_loud (refine Zg rfl _ _ rfl c.heap.size u3 L rfl aj.out _ (Z1 nm) rfl Y.out.brow (by simp only [Xd] at y;omega) au ?_;intro v6 w6 ai ab;have X:=hid ai;have i:=ao.out.trans ab;have aE:=hid i;have aw:=i.size;obtain ⟨d0,d1,a⟩:=R.out _ i;have e2:=(a.cell (p:=⟨b,off+k*2+1,none⟩) Z).trans aK.out;clear ai ab i a))
   refine (ag.out _).mono ?_;rintro e w7 ⟨v7,rfl,al,E⟩;have aS:=hid al;have aQ:=hid (X.out.keep E);have n:=aE.out.trans (E.mono aw);have aT:=hid n;have ah:=n.size;clear al E n ag d0 d1 e2 X aE ao Y aj;go_wp2_with (at_builtin;go_loud (refine Zg rfl _ _ rfl c.heap.size v6 (L++Z1 nm) rfl aQ.out _ (Z1 tx) rfl aS.out.brow (by simp only [Xd] at y;simp only [Xd];omega) ah ?_;intro v8 w8 F aC;rw [<- aR.out] at F;have aU:=hid F;have aN:=hid (aT.out.trans aC);clear F aC))
   have g:=aH.out;go_roundw
   case rel=>exact ⟨k+1,by omega,by go_num,aU,aN⟩
   case measure=>simp [intOf];omega
  ·obtain rfl:k=fs.length:=by omega
   have q1:decide ((fs.length:Int)<(fs.length:Int))=false:=by simp
   have q2:decide (fs.length<fs.length)=false:=by simp
   have J:=HOk.out;rw [ay.out] at J;have aP:=hid (Zd.weaken J (show w.heap.size<=c.heap.size by rw [aI.out];exact Nat.le_succ _));have aL:=hid a;clear HOk J g a d0;go_wp2_with fail;go_ret;exact ⟨_,rfl,aP.out,aL.out⟩
end EV
namespace ST
open RowKit MM EM SM VM VP GB TR
open EV (ZA evC Z8 Zad ZcF ZbP ZkP)
theorem ZnD (e:Ev):ZZ e≠[]:=fun h=>by
 have:=(Zcf e).2;rw [h] at this;simp at this
theorem ZeT (l:List Zo) (a:Nat):∀c,(Zas l a c).length<=20*c
 | 0=>by rw [Zfc];simp
 | c+1=>by
   have ih:=ZeT l a c;have h1:=Zc (ZaK l (Zbt l (a+c))).toNat;have h2:=Zc (ZO l (16*(a+c)) (Zbt l (a+c))).length;rw [Zfb];unfold Zg8;simp only [Xd];omega
def Zs7 (l:Xu) (x:Int) (w:World) (e:Ending) (w':World):Prop:=∃v,e=.returned (.tuple #[v,.int .i64 x])/\Zd w.heap.size w' v l/\Below w.heap.size w w'
theorem Zdh (v:Value) (l:List Zo) (w:World) (hv:ZN ZA w v l) (S:ZaH l):Calls prog 41 #[v] w (Zs7 (if isS l then SM.encS l else []) (if isS l then 0 else 120) w):=by
 obtain ⟨p,bQ,rfl,bA,bF,_⟩:=hv.shape;unfold maxLen at bF;have D:=hid (ZBr _ l w hv);cases hok:isS l with
 | true =>
   rw [hok] at D;rw [Xe rfl,Xe rfl];have y:=hid hok;have aM:=hid S;have HV:=hid hv;have hl:=(Zbx.1 hok).1
   have R:=hid (fun W=>by
    have:=Zcq (.slice none 0 0) [] (l.length:Int) W (by omega) (by omega) (World.ownsRow_nil _ _ _ _) (by simp);rw [XT,Xz] at this;exact this)
   obtain ⟨n,aF⟩:=Xn l.length;have C:=hid aF;rw [aF] at D HV R hl bA ⊢;clear hv aF hok S;have bN:prog.follows .mixedOrders=true:=by kernel_rfl
   go_enter func41,ntmps41;go_wp2_with fail;refine D.out.mono ?_;rintro e w1 ⟨rfl,U⟩;have L:=hid U;clear U D;go_wp2_with fail;refine (R.out _).mono ?_;rintro e w2 ⟨vh,rfl,a1,aB⟩
   have s:EncSt w w w2 none vh (.slice none 0 0) (Zb n++Zas l 0 0) (ZO l 0 (min 0 n)):=by
    have aW:Below w1.heap.size w1 w2:=aB.kep.below (Xc _) (fun k hk e=>by cases e);refine ⟨L.out.trans (aW.mono L.out.size),Xx L.out.size aW.size,Xc _,(fun g hg=>by cases hg),?_,?_,fun k hk => ?_,(fun k hk=>by cases hk),(fun k hk bk=>by cases bk)⟩
    ·rw [Zfc,XI];exact a1
    ·rw [Nat.zero_min,Zcp];exact World.ownsRow_nil _ _ _ _
    ·refine ⟨?_,by simp⟩;rcases aB.2 k hk with e|e
     ·cases e
     ·exact Xx L.out.size e
   have au:=hid s;have bj:Hid ((0:Int)=ZaK l (min 0 n)):=hid (by rw [Nat.zero_min];rfl);clear s a1 aB R;go_wp2_with fail
   go_loopw [4,5,6,7] (fun vh vb a iv wr=>∃(c I:Nat) (A:Int),Hid (I=16*c)/\I<=n+15/\iv=.int .i64 I/\a=.int .i64 A/\Hid (A=ZaK l (min I n))/\Hid (EncSt w w wr none vh vb (Zb n++Zas l 0 c) (ZO l 0 (min I n)))) (fun _ _ _ iv _=>n+16 - (intOf iv).toNat)
   case atStart=>exact ⟨0,0,0,hid rfl,by omega,rfl,rfl,bj,au⟩
   case round =>
    obtain ⟨c,I,A,HI,hi,rfl,rfl,HA,B⟩:=hrel;clear bj au;obtain ⟨r,rfl⟩:∃r,r=wr:=⟨_,rfl⟩
    by_cases aK:I<n
    ·have t1:decide ((I:Int)<(n:Int))=true:=by simp;omega
     have t2:decide (I<n)=true:=Xw aK;obtain ⟨M,hM⟩:=Xn (min (I+16) n);have aT:M<=n:=by omega
     have bp:I<M:=by omega
     have bM:M<=I+16:=by omega
     have bT:M=n\/M=I+16:=by omega
     have x:min I n=I:=by omega
     rw [x] at HA B;have bf:Hid (Zd r.heap.size r (.slice none 0 0) (ZO l I I)):=hid (by rw [Zcp];exact World.ownsRow_nil _ _ _ _);have ap:=hid (Below.refl r.heap.size r);have ba:Hid (Zbt l c=M):=hid (by unfold Zbt;rw [C.out,<- HI.out];exact hM);have ar:=B.out.low;have ao:=HV.out.below ar;have aS:=hid ao;clear hM x ar ao;go_wp2_with fail
     go_loopw [6,8,9] (fun a xv kv wr=>∃(k:Nat) (A:Int),I<=k/\k<=M/\kv=.int .i64 k/\a=.int .i64 A/\Hid (A=ZaK l k)/\Hid (Zd r.heap.size wr xv (ZO l I k))/\Hid (Below r.heap.size r wr)) (fun _ _ kv _=>M - (intOf kv).toNat)
     case atStart=>exact ⟨I,A,Xc _,Xam bp,rfl,rfl,HA,bf,ap⟩
     case round =>
      obtain ⟨k,A,aj,bP,rfl,rfl,HA,HX,ah⟩:=hrel;clear bf ap
      by_cases bJ:k<M
      ·have s1:decide ((k:Int)<(n:Int))=true:=Xt;have s2:decide (k<n)=true:=Xw (by omega);have s3:decide ((k:Int)<(I:Int)+16)=true:=Xt;have s4:(k:Int)<(n:Int):=by omega
       have o:k<l.length:=by rw [C.out];omega
       obtain ⟨b,off,vf,bv,O,_,c1,c2,c3,hf⟩:=Zad aS.out o;subst bv;obtain ⟨h1,h2,h3⟩:=Zfy y.out o;have hp:=ZcA y.out (k:=k) (Xam o);have af:=Zco (l:=l) aj;have ai:=Zgm o;have t:=Zff o;have m:=Zbv y.out (i:=I) (k:=k) aj (Xam o);have ay:=ZqH y.out o;have ag:=aM.out l[k] (XH o);rw [<- HA.out] at h1 hp t;obtain ⟨⟨E,⟨z,fs⟩⟩,hd⟩:∃d,l[k]=d:=⟨_,rfl⟩;rw [hd] at c1 c2 hf h1 h2 h3 ai t ag;dsimp only at c1 c2 hf h1 h2 h3 ai t ag;obtain ⟨aw,hx⟩:=Zlh h3;have aw:fs.length<=16:=aw;have hx:∀f∈fs,f.1.length<=4096/\f.2.length<=4096:=fun f hf=>by have:=hx f hf;omega
       obtain ⟨pf,cf,rfl,_⟩:=hf.shape;obtain ⟨X,hX⟩:=Xn (ZO l I k);rw [hX] at HX af m;rw [t] at af ay;have HN:Hid (ZO l I (k+1)=X++Zb (E - A - 1).toNat++ZZ (z,fs)):=hid (by rw [af,Xl]);have bs:Hid (E=ZaK l (k+1)):=hid ai.symm;have bO:X.length<=4500000000:=by omega
       have ay:(Zb (E - A - 1).toNat).length+(ZZ (z,fs)).length<=67000:=by rw [Xd] at ay;omega
       have bm:=hid (fun W (N:Below r.heap.size r W)=>(ZgP.below (ZN.bel hf.any) N).any);have bK:=hid (fun W=>ZkP z (.slice pf fs.length cf) fs W);have aJ:=hid ag;have bG:=hid hx;have w1:IntKind.i64.wrap (E - A)=E - A:=by rw [IntKind.wrap_i64];omega
       have bI:IntKind.i64.wrap (E - A - 1)=E - A - 1:=by rw [IntKind.wrap_i64];omega
       have bB:0<=E - A - 1:=by omega
       have bo:E - A - 1<=9223372036854775807:=by omega
       have HC:=hid (fun W (N:Below r.heap.size r W)=>(show W.cell? ⟨b,off+k*3,none⟩=some (.int .i64 E)/\W.cell? ⟨b,off+k*3+1,none⟩=some (.int .i64 z)/\W.cell? ⟨b,off+k*3+2,none⟩=some (.slice pf fs.length cf) from
        ⟨(N.cell (p:=⟨b,_,none⟩) O).trans c1,(N.cell (p:=⟨b,_,none⟩) O).trans c2,(N.cell (p:=⟨b,_,none⟩) O).trans c3⟩))
       obtain ⟨wd,ak⟩:=Xn wr.drew;have al:Below r.heap.size r wd:=by rw [<- ak];exact ah.out.drew
       have aD:Zd r.heap.size wd u8 X:=by rw [<- ak];exact Zd.keep HX.out (Below.refl _ _).drew
       have a2:=hid al;have aI:=hid aD;have bL:r.heap.size<=wd.heap.size:=al.size;have V:b<r.heap.size:=O;obtain ⟨g1,g2,g3⟩:=HC.out wd al
       have G:=hid (fun W (N:Kep (fun k=>k<r.heap.size) wd W)=>(show W.cell? ⟨b,off+k*3,none⟩=some (.int .i64 E)/\W.cell? ⟨b,off+k*3+1,none⟩=some (.int .i64 z)/\W.cell? ⟨b,off+k*3+2,none⟩=some (.slice pf fs.length cf) from
        ⟨(N.cell (by omega) V _).trans g1,(N.cell (by omega) V _).trans g2,(N.cell (by omega) V _).trans g3⟩))
       have K1:=hid (Zcq u8 X (E - A - 1) wd bB bo (Zd.zero aD) (by omega));clear c1 c2 c3 hf h1 h2 h3 hp af ai t m hX hd o hx ag al aD g1 g2 g3 HX ah HA O;go_wp2_with fail;refine RK.ZaF (T:=fun k=>k<r.heap.size) [(0,true),(1,true),(2,true),(3,true),(4,true),(5,true),(6,true),(7,true),(8,true),(10,true),(11,true),(12,true),(13,true),(14,true),(9,false),(15,false),(16,false),(17,true)] (by kernel_rfl) (by kernel_rfl) rfl (by kernel_rfl) (fun _ _ d _ _ h=>by cases d<;>exact h) ?_;simp only [RK.Zy,XF,XV,XZ,X4,XX];rw [ak];clear ak;repeat (refine RK.take (by rfl) (by intro W N;obtain ⟨f1,f2,f3⟩:=G.out W N;go_simp;with_reducible rfl) ?_;simp only [Act.put,Xr,Xs,Xq])
       try rw [w1]
       try rw [bI]
       refine RK.alone (by rfl) (fun K hK => ?_);go_simp;refine K1.out.mono ?_;rintro e w3 ⟨v3,rfl,bc,aH⟩;go_simp;refine hK.out _ _ (aH.kep.mono fun q hq e=>by have:=(World.ownsRow.lt aI.out q e).1;omega) ?_;clear hK K K1;obtain ⟨av,am⟩:=Zb3 bL aI.out aH bc;have ab:=a2.out.trans am;have aL:=ab.size;have aA:=hid ab;have bg:=hid av;clear bc aH av am ab aI;have K2:=hid (bK.out w3 (bm.out w3 aA.out) aJ.out.1 aJ.out.2 aw bG.out);refine RK.alone (by rfl) (fun K hK => ?_);go_simp;refine K2.out.mono ?_;rintro e w4 ⟨v4,rfl,aP,Y⟩;go_simp;refine hK.out _ _ (Za _ Y) ?_;clear hK K K2;have bl:r.heap.size<=w4.heap.size:=Xx aL Y.size;have a6:=hid (bg.out.keep Y);have a4:=hid aP;have aO:=hid (aA.out.trans (Y.mono aL));clear aP Y bg aA;refine RK.alone (by rfl) (fun K hK => ?_);refine Znq _ _ rfl v3 (X++Zb (E - A - 1).toNat) rfl a6.out bl _ (ZZ (z,fs)) rfl a4.out.brow (ZnD _) (by rw [Xd];omega) ?_;intro v5 w5 aE bi bh;refine hK.out _ _ bh ?_;clear hK K;rw [<- HN.out] at aE;have bn:=hid aE;have aY:=hid (aO.out.trans bi);clear aE bi bh a6 aO a4 a2;repeat (refine RK.take (by rfl) (by intro W N;go_simp;with_reducible rfl) ?_;simp only [Act.put,Xr,Xs,Xq])
       refine RK.done ?_;clear G;obtain ⟨g1,g2,g3⟩:=HC.out w5 aY.out;go_wp2_with fail;go_roundw
       case rel=>exact ⟨k+1,E,by omega,by omega,by go_num,rfl,bs,bn,aY⟩
       case measure=>simp [intOf];omega
      ·obtain rfl:k=M:=by omega
       obtain ⟨X,hX⟩:=Xn (ZO l I k);rw [hX] at HX;have m:=Zbv y.out (i:=I) (k:=k) aj (by rw [C.out];exact aT);have aZ:=Zbv y.out (i:=0) (k:=I) (by omega) (by rw [C.out];omega);have aa:=ZcA y.out (k:=k) (by rw [C.out];exact aT);have Z:=ZiA (l:=l) (i:=0) (j:=I) (by omega) aj;rw [hX] at m Z;rw [<- HA.out] at aa;have bz:=hid HA.out;have aq:X≠[]:=fun e=>by rw [e] at m;simp at m;omega
       have aV:=Zc n;have az:=ZeT l 0 c;have ax:=HI.out;have an:=B.out.row ah.out HX.out;have aR:∀W,Zd 0 W u4 (Zb n++Zas l 0 c)->Calls prog _ #[u4,.int .i64 A] W _:=fun W h=>Zcq u4 _ A W aa.1 (by omega) h (by rw [Xd];omega);have aC:∀W u,Zd 0 W u (Zb n++Zas l 0 c++Zb A.toNat)->Calls prog _ #[u,.int .i64 (X.length:Int)] W _:=fun W u h=>Zcq u _ (X.length:Int) W (by omega) (by omega) h (by have:=Zc A.toNat;simp only [Xd];omega)
       have e3:Zb n++Zas l 0 c++Zb A.toNat++Zb (X.length:Int).toNat=Zb n++Zas l 0 (c+1):=by
        rw [Zfb,XL];unfold Zg8;rw [ba.out,<- HI.out,hX,<- HA.out,XT];simp only [Xl]
       rw [e3] at aC;have R:=hid aR;have bt:=hid aC;have a7:=hid aq;have a3:=hid Z;have aG:(ZO l 0 I).length+X.length<=140737488355328:=by omega
       have ad:=hid an;have bb:=hid HX.out;obtain ⟨px,cx,rfl,bR,bS⟩:=(Zd.brow bb.out).shape;have F:Hid (I+16=16*(c+1)/\I+16<=n+15/\min (I+16) n=k):=hid ⟨by omega,by omega,by omega⟩
       have s0:(decide ((k:Int)<(n:Int))=true/\decide (k<n)=true/\decide ((k:Int)<(I:Int)+16)=false)\/(decide ((k:Int)<(n:Int))=false/\decide (k<n)=false):=by
        by_cases o:k<n
        ·exact .inl ⟨by rw [Xg];omega,Xw o,by rw [Xk];omega⟩
        ·exact .inr ⟨by rw [Xk];omega,XB o⟩
       clear hX m aZ aa Z aq aV az an aR aC e3 HX ah B HA bJ ax;rcases s0 with ⟨s1,s2,s3⟩|⟨s1,s2⟩
       all_goals
        go_wp2_with fail;refine (R.out _ ad.out.oh).mono ?_;rintro e w6 ⟨v6,rfl,aU,aQ⟩;have ac:=hid (ad.out.growH aQ aU);clear aU aQ ad;go_wp2_with fail;refine (bt.out _ _ ac.out.oh).mono ?_;rintro e w7 ⟨v7,rfl,aX,a5⟩;have H:=hid (ac.out.growH a5 aX);clear aX a5 ac;have a9:=hid (Zgs bb.out (fun g hg=>(H.out.blk g hg).2));have bx:=hid (Zd.brow a9.out);have aN:=hid H.out.ob;go_wp2_with (at_builtin;refine Zl rfl _ _ rfl _ (ZO l 0 I) rfl aN.out _ X rfl bx.out a7.out aG ?_)
        intro v8 w8 J a8;have ae:=(H.out.growB a8 J).forget;rw [a3.out] at ae;have be:=hid ae;clear J a8 ae H;go_wp2_with fail;go_roundw
        case rel=>exact ⟨c+1,I+16,A,hid F.out.1,F.out.2.1,by go_num,rfl,hid (by rw [F.out.2.2];exact bz.out),hid (by rw [F.out.2.2];exact be.out)⟩
        case measure=>simp [intOf];omega
    ·have t1:decide ((I:Int)<(n:Int))=false:=by simp;omega
     have t2:decide (I<n)=false:=XB aK;have hc:c=Zv n:=by unfold Zv;have:=HI.out;omega
     have x:min I n=n:=by omega
     rw [x] at B;have s:=B.out;have bw:=Zbv y.out (i:=0) (k:=n) (by omega) (by rw [C.out];exact Xc _);have az:=ZeT l 0 c;have bq:=Zc n;have ax:=HI.out;have bu:=hid (Zd.from s.oh (fun k hk=>(s.fh k hk).1));have bD:=hid (Zd.brow s.ob);have a0:=hid s.low;have m:(Zb n++Zas l 0 c).length+(ZO l 0 n).length<=140737488355328:=by rw [Xd];omega
     have br:=s.low.size;have bC:Hid (SM.encS l=Zb n++(Zas l 0 c++ZO l 0 n)):=hid (by unfold SM.encS;rw [C.out,<- hc]);clear s bw az bq B x HA ax hc;go_wp2_with (at_builtin;refine Zg rfl _ _ rfl w.heap.size _ (Zb n++Zas l 0 c) rfl bu.out _ (ZO l 0 n) rfl bD.out m br ?_)
     intro v8 w8 J bd;rw [<- bC.out] at J;have bH:=hid J;have bE:=hid (a0.out.trans bd);clear J bd;go_wp2_with fail;go_ret2;exact ⟨_,rfl,bH.out,bE.out⟩
 | false =>
   rw [hok] at D;rw [Xa (by simp),Xa (by simp)];clear hok hv S;go_enter func41,ntmps41;go_wp2_with fail;refine D.out.mono ?_;rintro e w1 ⟨rfl,U⟩;have L:=hid U;clear U D;go_wp2_with fail;go_ret2;exact ⟨_,rfl,World.ownsRow_nil _ _ _ _,L.out⟩
