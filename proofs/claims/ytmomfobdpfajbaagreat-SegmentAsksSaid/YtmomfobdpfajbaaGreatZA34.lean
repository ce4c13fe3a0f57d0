import Derived.Test.YtmomfobdpfajbaaGreatZA19
import Derived.Test.YtmomfobdpfajbaaGreatZA14
set_option maxRecDepth 100000
set_option maxHeartbeats 0
set_option linter.unusedVariables false
set_option linter.unusedSimpArgs false
namespace Go.Proofs.YtmomfobdpfajbaaGreat
open Tryz
namespace EV
open RowKit MM EM VM GB
open VP
theorem Zzw (t:Xu) (ht:t.length<=4096) (W:World):Calls prog 145 #[.string ⟨t.toArray⟩] W (ZV W.heap.size (Z5 t) W):=by
 have h:=ZoI ⟨t.toArray⟩ W (by rw [ZaX];omega);rw [ZcO] at h;exact h
theorem Zb2 {B:Nat} {wr w':World} {u u':Value} {L d:Xu} (h:B<=wr.heap.size) (g:Zd B wr u L) (f:Grown wr w' u u') (b:Zd 0 w' u' d):Zd B w' u' d/\Below B wr w':=by
 have c:∀k,u.ownBlock=some k->B<=k:=fun k a=>(World.ownsRow.lt g k a).1;refine ⟨Zd.from b fun k a => ?_,f.kep.below h fun k a e=>by have:=c k e;omega⟩;rcases f.2 k a with e|e
 ·exact c k e
 ·omega
theorem ZkX (z:Int) (u:Value) (fs:List Fld) (w:World) (hr:ZF Zae w u fs) (h0 : -9223372036854775808<=z) (h1:z<=9223372036854775807) (aR:fs.length<=16) (hx:∀f∈fs,f.1.length<=4096/\f.2.length<=4096) :
  Calls prog 88 #[.agg #[.int .i64 z,u]] w (ZV w.heap.size (Z0 (z,fs)) w):=by
 have aY:prog.follows .mixedOrders=true:=by kernel_rfl
 obtain ⟨p,j,rfl,aW,aK,_⟩:=hr.shape;unfold maxLen at aK;obtain ⟨c,H⟩:=Xn (ZaZ w z (.slice p fs.length j));have R:=Zbx w z (.slice p fs.length j);have o:=ZbX w z (.slice p fs.length j);have ak:=fun W (h:Below c.heap.size c W)=>ZcR (w:=w) (wr:=W) (z:=z) (v:=.slice p fs.length j) (by rw [H];exact h);rw [H] at R o;have aB:=Y4 (fits fs.length [] fs z aR hx (by simp));have HX:=Y4 hx;have HR:=Y4 hr;have aX:=Y4 R;have J:=Y4 ak;have aS:=Y4 H;have Y:Y5 (ZaV z++Zb fs.length++ZJ (fs.take fs.length)=Z0 (z,fs)):=Y4 (by rw [XB];unfold Z0;simp);clear hr hx R ak;go_enter func88,ntmps88;go_wp2_with fail;refine RK.Zal (T:=fun k=>k<c.heap.size) [(0,true),(1,true),(3,true),(4,true),(5,true),(6,true),(2,false),(7,false),(8,false),(9,true)] (by kernel_rfl) (by kernel_rfl) rfl (by kernel_rfl) (fun _ _ d _ _ h=>by cases d<;>exact h) ?_;simp only [RK.Zt,XC,XN,XU,XV,XS];change RK.walk _ _ _ _ _ _ (ZaZ w z (.slice p fs.length j)).drew;rw [aS.z];obtain ⟨wd,I⟩:=Xn c.drew;have x:Below c.heap.size c wd:=by rw [<- I];exact (Below.refl _ _).drew
 have S:=J.z _ x;have r:=x.size
 have G:=Y4 (fun W (hW:Kep (fun k=>k<c.heap.size) wd W)=>(show W.cell? ⟨w.heap.size,0,none⟩=some (.int .i64 z)/\W.cell? ⟨w.heap.size,1,none⟩=some (.slice p fs.length j) from
  ⟨(hW.cell (by omega) (by omega) 0).trans S.1,(hW.cell (by omega) (by omega) 1).trans S.2.1⟩))
 have aE:=Y4 x;have aO:=Y4 o;clear o;rw [I];clear I x S;repeat (refine RK.take (by rfl) (by intro W hW;obtain ⟨f1,f2⟩:=G.z W hW;go_simp;with_reducible rfl) ?_;simp only [Act.put,Xm,Xo,Xl])
 have K1:=Y4 (ZmY z wd h0 h1);refine RK.alone (by rfl) (fun K A => ?_);go_simp;refine K1.z.mono ?_;rintro e w1 ⟨v1,rfl,ai,q⟩;go_simp;refine A.z _ _ (Za _ q) ?_;clear A K K1;have M:c.heap.size<=w1.heap.size:=Xy r q.size;have X:=Y4 (Zd.weaken ai r);have av:=Y4 (aE.z.trans (q.mono r));clear ai q;have K2:=Y4 (ZcW fs.length w1 (by omega));refine RK.alone (by rfl) (fun K A => ?_);go_simp;rw [show IntKind.u64.wrap (fs.length:Int)=(fs.length:Int) by rw [IntKind.wrap_u64];omega];refine K2.z.mono ?_;rintro e w2 ⟨v2,rfl,aD,l⟩;go_simp;refine A.z _ _ (Za _ l) ?_;clear A K K2;have ae:c.heap.size<=w2.heap.size:=Xy M l.size;have t:=Y4 (X.z.keep l);have ad:=Y4 aD;have ay:=Y4 (av.z.trans (l.mono M));clear aD l;refine RK.alone (by rfl) (fun K A => ?_);refine Zeg _ _ rfl v1 (ZaV z) rfl (GB.Zd.zero t.z) _ (Zb fs.length) rfl ad.z.brow (Zaz _) (by have:=aB.z 0;simp only [Xd] at this;omega) ?_;intro v3 w3 ah V;refine A.z _ _ (V.kep.mono fun k hk e=>absurd (World.ownsRow.lt t.z k e).1 (Nat.not_le.2 hk)) ?_;clear A K;obtain ⟨ar,az⟩:=Zb2 ae t.z V ah;have ab:Y5 (Zd c.heap.size w3 v3 (ZaV z++Zb fs.length++ZJ (fs.take 0))):=Y4 (by rw [show ZaV z++Zb fs.length++ZJ (fs.take 0)=ZaV z++Zb fs.length by simp [EM.ZJ]];exact ar);have Z:=Y4 (ay.z.trans az);clear ah V ar az X t ad av ay;repeat (refine RK.take (by rfl) (by intro W hW;go_simp;with_reducible rfl) ?_;simp only [Act.put,Xm,Xo,Xl])
 refine RK.done ?_;clear G r aE M ae;go_wp2_with fail
 go_loopw [3,4] (fun bv iv wr=>∃k:Nat,k<=fs.length/\iv=.int .i64 k/\Y5 (Zd c.heap.size wr bv (ZaV z++Zb fs.length++ZJ (fs.take k)))/\Y5 (Below c.heap.size c wr)) (fun _ iv _=>fs.length - (intOf iv).toNat)
 case atStart=>exact ⟨0,by omega,rfl,ab,Z⟩
 case round =>
  obtain ⟨k,hk,rfl,HOk,s⟩:=hrel;clear ab Z;obtain ⟨d0,d1,a⟩:=J.z _ s.z;have aH:=s.z.size
  by_cases g:k<fs.length
  ·have q1:decide ((k:Int)<(fs.length:Int))=true:=Xt;have q2:decide (k<fs.length)=true:=Xt;have q3:(k:Int)<(fs.length:Int):=by omega
   obtain ⟨b,off,rfl,ac,_,c1,c2⟩:=ZeN HR.z g;have e1:=(a.cell (p:=⟨b,off+k*2,none⟩) ac).trans c1;have aJ:=Y4 c2;have aA:=HX.z fs[k] (XI g);have O:=ZkA g;have N:=aB.z (k+1);rw [O,XE] at N;generalize fs[k].1=nm at *;generalize fs[k].2=tx at *;have E:ZaV z++Zb fs.length++ZJ (fs.take (k+1))=ZaV z++Zb fs.length++ZJ (fs.take k)++Z5 nm++Z5 tx:=by rw [O];simp
   obtain ⟨L,hL⟩:=Xn (ZaV z++Zb fs.length++ZJ (fs.take k));have B:(L++Z5 nm++Z5 tx).length<=1001000000:=by rw [<- hL];simp only [Xd] at N ⊢;omega
   rw [hL] at E;have U:=HOk.z;rw [hL] at U;have y:=Y4 U;have aU:=Y4 E;have au:=Y4 (Zzw nm aA.1 wr);have ap:=Y4 (fun W=>Zzw tx aA.2 W);have aM:=Y4 g;have aG:=Y4 a;clear O N hL U E HOk g c1 c2 a;go_wp2_with fail;refine au.z.mono ?_;rintro e w5 ⟨v5,rfl,al,C⟩;have ao:=Y4 al;have aa:=Y4 (y.z.keep C);have n:=s.z.trans (C.mono aH);have ag:=Y4 n;have aq:=n.size;clear al C n au s d0 d1 e1 aG y;go_wp2_with (at_builtin;go_loud (refine Zh rfl _ _ rfl c.heap.size u3 L rfl aa.z _ (Z5 nm) rfl ao.z.brow (by simp only [Xd] at B;omega) aq ?_;intro v6 w6 am ax;have an:=Y4 am;have i:=ag.z.trans ax;have aw:=Y4 i;have aj:=i.size;obtain ⟨d0,d1,a⟩:=J.z _ i;have e2:=(a.cell (p:=⟨b,off+k*2+1,none⟩) ac).trans aJ.z;clear am ax i a))
   refine (ap.z _).mono ?_;rintro e w7 ⟨v7,rfl,aC,F⟩;have aV:=Y4 aC;have aN:=Y4 (an.z.keep F);have m:=aw.z.trans (F.mono aj);have aT:=Y4 m;have aF:=m.size;clear aC F m ap d0 d1 e2 an aw ag ao aa;go_wp2_with (at_builtin;go_loud (refine Zh rfl _ _ rfl c.heap.size v6 (L++Z5 nm) rfl aN.z _ (Z5 tx) rfl aV.z.brow (by simp only [Xd] at B;simp only [Xd];omega) aF ?_;intro v8 w8 D af;rw [<- aU.z] at D;have aI:=Y4 D;have aP:=Y4 (aT.z.trans af);clear D af))
   have g:=aM.z;go_roundw
   case rel=>exact ⟨k+1,by omega,by go_num,aI,aP⟩
   case measure=>simp [intOf];omega
  ·obtain rfl:k=fs.length:=by omega
   have q1:decide ((fs.length:Int)<(fs.length:Int))=false:=by simp
   have q2:decide (fs.length<fs.length)=false:=by simp
   have U:=HOk.z;rw [Y.z] at U;have aQ:=Y4 (Zd.weaken U (show w.heap.size<=c.heap.size by rw [aO.z];exact Nat.le_succ _));have aL:=Y4 a;clear HOk U g a d0;go_wp2_with fail;go_ret;exact ⟨_,rfl,aQ.z,aL.z⟩
end EV
namespace ST
open RowKit MM EM SM VM VP GB TR
open EV (ZD evC Zae Z2 ZbT ZbJ ZkX)
theorem ZnI (e:Ev):Z0 e≠[]:=fun h=>by
 have:=(Zcd e).2;rw [h] at this;simp at this
theorem ZeR (l:List Zq) (a:Nat):∀c,(Zas l a c).length<=20*c
 | 0=>by rw [Ze9];simp
 | c+1=>by
   have ih:=ZeR l a c;have h1:=Zc (ZaJ l (Zbu l (a+c))).toNat;have h2:=Zc (ZR l (16*(a+c)) (Zbu l (a+c))).length;rw [Ze8];unfold Zg8;simp only [Xd];omega
def ZtF (l:Xu) (x:Int) (w:World) (e:Ending) (w':World):Prop:=∃v,e=.returned (.tuple #[v,.int .i64 x])/\Zd w.heap.size w' v l/\Below w.heap.size w w'
theorem Zd0 (v:Value) (l:List Zq) (w:World) (hv:ZF ZD w v l) (Y:ZaS l):Calls prog 41 #[v] w (ZtF (if isS l then SM.encS l else []) (if isS l then 0 else 120) w):=by
 obtain ⟨p,bQ,rfl,bn,bu,_⟩:=hv.shape;unfold maxLen at bu;have B:=Y4 (ZBL _ l w hv);cases hok:isS l with
 | true =>
   rw [hok] at B;rw [Xe rfl,Xe rfl];have x:=Y4 hok;have be:=Y4 Y;have HV:=Y4 hv;have hl:=(Zcv.1 hok).1
   have ac:=Y4 (fun W=>by
    have:=Zcm (.slice none 0 0) [] (l.length:Int) W (by omega) (by omega) (World.ownsRow_nil _ _ _ _) (by simp);rw [XY,XE] at this;exact this)
   obtain ⟨n,aE⟩:=Xn l.length;have D:=Y4 aE;rw [aE] at B HV ac hl bn ⊢;clear hv aE hok Y;have bT:prog.follows .mixedOrders=true:=by kernel_rfl
   go_enter func41,ntmps41;go_wp2_with fail;refine B.z.mono ?_;rintro e w1 ⟨rfl,V⟩;have L:=Y4 V;clear V B;go_wp2_with fail;refine (ac.z _).mono ?_;rintro e w2 ⟨vh,rfl,bf,aH⟩
   have s:EncSt w w w2 none vh (.slice none 0 0) (Zb n++Zas l 0 0) (ZR l 0 (min 0 n)):=by
    have aJ:Below w1.heap.size w1 w2:=aH.kep.below (Xa _) (fun k hk e=>by cases e);refine ⟨L.z.trans (aJ.mono L.z.size),Xy L.z.size aJ.size,Xa _,(fun g hg=>by cases hg),?_,?_,fun k hk => ?_,(fun k hk=>by cases hk),(fun k hk bw=>by cases bw)⟩
    ·rw [Ze9,XH];exact bf
    ·rw [Nat.zero_min,Zcl];exact World.ownsRow_nil _ _ _ _
    ·refine ⟨?_,by simp⟩;rcases aH.2 k hk with e|e
     ·cases e
     ·exact Xy L.z.size e
   have an:=Y4 s;have aZ:Y5 ((0:Int)=ZaJ l (min 0 n)):=Y4 (by rw [Nat.zero_min];rfl);clear s bf aH ac;go_wp2_with fail
   go_loopw [4,5,6,7] (fun vh vb a iv wr=>∃(c I:Nat) (A:Int),Y5 (I=16*c)/\I<=n+15/\iv=.int .i64 I/\a=.int .i64 A/\Y5 (A=ZaJ l (min I n))/\Y5 (EncSt w w wr none vh vb (Zb n++Zas l 0 c) (ZR l 0 (min I n)))) (fun _ _ _ iv _=>n+16 - (intOf iv).toNat)
   case atStart=>exact ⟨0,0,0,Y4 rfl,by omega,rfl,rfl,aZ,an⟩
   case round =>
    obtain ⟨c,I,A,HI,hi,rfl,rfl,HA,C⟩:=hrel;clear aZ an;obtain ⟨r,rfl⟩:∃r,r=wr:=⟨_,rfl⟩
    by_cases bc:I<n
    ·have t1:decide ((I:Int)<(n:Int))=true:=by simp;omega
     have t2:decide (I<n)=true:=Xs bc;obtain ⟨M,hM⟩:=Xn (min (I+16) n);have aV:M<=n:=by omega
     have bt:I<M:=by omega
     have bM:M<=I+16:=by omega
     have bO:M=n\/M=I+16:=by omega
     have y:min I n=I:=by omega
     rw [y] at HA C;have ba:Y5 (Zd r.heap.size r (.slice none 0 0) (ZR l I I)):=Y4 (by rw [Zcl];exact World.ownsRow_nil _ _ _ _);have am:=Y4 (Below.refl r.heap.size r);have aL:Y5 (Zbu l c=M):=Y4 (by unfold Zbu;rw [D.z,<- HI.z];exact hM);have ap:=C.z.low;have ar:=HV.z.below ap;have a0:=Y4 ar;clear hM y ap ar;go_wp2_with fail
     go_loopw [6,8,9] (fun a xv kv wr=>∃(k:Nat) (A:Int),I<=k/\k<=M/\kv=.int .i64 k/\a=.int .i64 A/\Y5 (A=ZaJ l k)/\Y5 (Zd r.heap.size wr xv (ZR l I k))/\Y5 (Below r.heap.size r wr)) (fun _ _ kv _=>M - (intOf kv).toNat)
     case atStart=>exact ⟨I,A,Xa _,Xal bt,rfl,rfl,HA,ba,am⟩
     case round =>
      obtain ⟨k,A,ak,bP,rfl,rfl,HA,HX,ah⟩:=hrel;clear ba am
      by_cases bJ:k<M
      ·have s1:decide ((k:Int)<(n:Int))=true:=Xt;have s2:decide (k<n)=true:=Xs (by omega);have s3:decide ((k:Int)<(I:Int)+16)=true:=Xt;have s4:(k:Int)<(n:Int):=by omega
       have o:k<l.length:=by rw [D.z];omega
       obtain ⟨b,off,vf,bx,U,_,c1,c2,c3,hf⟩:=Z2 a0.z o;subst bx;obtain ⟨h1,h2,h3⟩:=Zge x.z o;have hp:=Zcw x.z (k:=k) (Xal o);have ai:=Zck (l:=l) ak;have aj:=Zgg o;have t:=Zfc o;have m:=Zbw x.z (i:=I) (k:=k) ak (Xal o);have aC:=Zq2 x.z o;have af:=be.z l[k] (XI o);rw [<- HA.z] at h1 hp t;obtain ⟨⟨F,⟨z,fs⟩⟩,hd⟩:∃d,l[k]=d:=⟨_,rfl⟩;rw [hd] at c1 c2 hf h1 h2 h3 aj t af;dsimp only at c1 c2 hf h1 h2 h3 aj t af;obtain ⟨aF,hx⟩:=Zlk h3;have aF:fs.length<=16:=aF;have hx:∀f∈fs,f.1.length<=4096/\f.2.length<=4096:=fun f hf=>by have:=hx f hf;omega
       obtain ⟨pf,cf,rfl,_⟩:=hf.shape;obtain ⟨X,hX⟩:=Xn (ZR l I k);rw [hX] at HX ai m;rw [t] at ai aC;have HN:Y5 (ZR l I (k+1)=X++Zb (F - A - 1).toNat++Z0 (z,fs)):=Y4 (by rw [ai,Xk]);have bH:Y5 (F=ZaJ l (k+1)):=Y4 aj.symm;have bS:X.length<=4500000000:=by omega
       have aC:(Zb (F - A - 1).toNat).length+(Z0 (z,fs)).length<=67000:=by rw [Xd] at aC;omega
       have bs:=Y4 (fun W (N:Below r.heap.size r W)=>(Ze0.below (ZF.bel hf.any) N).any);have bI:=Y4 (fun W=>ZkX z (.slice pf fs.length cf) fs W);have aW:=Y4 af;have bD:=Y4 hx;have w1:IntKind.i64.wrap (F - A)=F - A:=by rw [IntKind.wrap_i64];omega
       have bE:IntKind.i64.wrap (F - A - 1)=F - A - 1:=by rw [IntKind.wrap_i64];omega
       have bL:0<=F - A - 1:=by omega
       have bz:F - A - 1<=9223372036854775807:=by omega
       have HC:=Y4 (fun W (N:Below r.heap.size r W)=>(show W.cell? ⟨b,off+k*3,none⟩=some (.int .i64 F)/\W.cell? ⟨b,off+k*3+1,none⟩=some (.int .i64 z)/\W.cell? ⟨b,off+k*3+2,none⟩=some (.slice pf fs.length cf) from
        ⟨(N.cell (p:=⟨b,_,none⟩) U).trans c1,(N.cell (p:=⟨b,_,none⟩) U).trans c2,(N.cell (p:=⟨b,_,none⟩) U).trans c3⟩))
       obtain ⟨wd,ag⟩:=Xn wr.drew;have al:Below r.heap.size r wd:=by rw [<- ag];exact ah.z.drew
       have ay:Zd r.heap.size wd u8 X:=by rw [<- ag];exact Zd.keep HX.z (Below.refl _ _).drew
       have bj:=Y4 al;have ax:=Y4 ay;have bC:r.heap.size<=wd.heap.size:=al.size;have O:b<r.heap.size:=U;obtain ⟨g1,g2,g3⟩:=HC.z wd al
       have G:=Y4 (fun W (N:Kep (fun k=>k<r.heap.size) wd W)=>(show W.cell? ⟨b,off+k*3,none⟩=some (.int .i64 F)/\W.cell? ⟨b,off+k*3+1,none⟩=some (.int .i64 z)/\W.cell? ⟨b,off+k*3+2,none⟩=some (.slice pf fs.length cf) from
        ⟨(N.cell (by omega) O _).trans g1,(N.cell (by omega) O _).trans g2,(N.cell (by omega) O _).trans g3⟩))
       have K1:=Y4 (Zcm u8 X (F - A - 1) wd bL bz (Zd.zero ay) (by omega));clear c1 c2 c3 hf h1 h2 h3 hp ai aj t m hX hd o hx af al ay g1 g2 g3 HX ah HA U;go_wp2_with fail;refine RK.Zal (T:=fun k=>k<r.heap.size) [(0,true),(1,true),(2,true),(3,true),(4,true),(5,true),(6,true),(7,true),(8,true),(10,true),(11,true),(12,true),(13,true),(14,true),(9,false),(15,false),(16,false),(17,true)] (by kernel_rfl) (by kernel_rfl) rfl (by kernel_rfl) (fun _ _ d _ _ h=>by cases d<;>exact h) ?_;simp only [RK.Zt,XC,XN,XU,XV,XS];rw [ag];clear ag;repeat (refine RK.take (by rfl) (by intro W N;obtain ⟨f1,f2,f3⟩:=G.z W N;go_simp;with_reducible rfl) ?_;simp only [Act.put,Xm,Xo,Xl])
       try rw [w1]
       try rw [bE]
       refine RK.alone (by rfl) (fun K hK => ?_);go_simp;refine K1.z.mono ?_;rintro e w3 ⟨v3,rfl,a2,aI⟩;go_simp;refine hK.z _ _ (aI.kep.mono fun q hq e=>by have:=(World.ownsRow.lt ax.z q e).1;omega) ?_;clear hK K K1;obtain ⟨ao,aq⟩:=Zb2 bC ax.z aI a2;have ae:=bj.z.trans aq;have aP:=ae.size;have aG:=Y4 ae;have aU:=Y4 ao;clear a2 aI ao aq ae ax;have K2:=Y4 (bI.z w3 (bs.z w3 aG.z) aW.z.1 aW.z.2 aF bD.z);refine RK.alone (by rfl) (fun K hK => ?_);go_simp;refine K2.z.mono ?_;rintro e w4 ⟨v4,rfl,bb,aa⟩;go_simp;refine hK.z _ _ (Za _ aa) ?_;clear hK K K2;have bl:r.heap.size<=w4.heap.size:=Xy aP aa.size;have aS:=Y4 (aU.z.keep aa);have a7:=Y4 bb;have aO:=Y4 (aG.z.trans (aa.mono aP));clear bb aa aU aG;refine RK.alone (by rfl) (fun K hK => ?_);refine Znw _ _ rfl v3 (X++Zb (F - A - 1).toNat) rfl aS.z bl _ (Z0 (z,fs)) rfl a7.z.brow (ZnI _) (by rw [Xd];omega) ?_;intro v5 w5 aB aK a4;refine hK.z _ _ a4 ?_;clear hK K;rw [<- HN.z] at aB;have bv:=Y4 aB;have a1:=Y4 (aO.z.trans aK);clear aB aK a4 aS aO a7 bj;repeat (refine RK.take (by rfl) (by intro W N;go_simp;with_reducible rfl) ?_;simp only [Act.put,Xm,Xo,Xl])
       refine RK.done ?_;clear G;obtain ⟨g1,g2,g3⟩:=HC.z w5 a1.z;go_wp2_with fail;go_roundw
       case rel=>exact ⟨k+1,F,by omega,by omega,by go_num,rfl,bH,bv,a1⟩
       case measure=>simp [intOf];omega
      ·obtain rfl:k=M:=by omega
       obtain ⟨X,hX⟩:=Xn (ZR l I k);rw [hX] at HX;have m:=Zbw x.z (i:=I) (k:=k) ak (by rw [D.z];exact aV);have aX:=Zbw x.z (i:=0) (k:=I) (by omega) (by rw [D.z];omega);have Z:=Zcw x.z (k:=k) (by rw [D.z];exact aV);have ab:=ZiG (l:=l) (i:=0) (j:=I) (by omega) ak;rw [hX] at m ab;rw [<- HA.z] at Z;have bB:=Y4 HA.z;have au:X≠[]:=fun e=>by rw [e] at m;simp at m;omega
       have a5:=Zc n;have az:=ZeR l 0 c;have aD:=HI.z;have av:=C.z.row ah.z HX.z;have a8:∀W,Zd 0 W u4 (Zb n++Zas l 0 c)->Calls prog _ #[u4,.int .i64 A] W _:=fun W h=>Zcm u4 _ A W Z.1 (by omega) h (by rw [Xd];omega);have aA:∀W u,Zd 0 W u (Zb n++Zas l 0 c++Zb A.toNat)->Calls prog _ #[u,.int .i64 (X.length:Int)] W _:=fun W u h=>Zcm u _ (X.length:Int) W (by omega) (by omega) h (by have:=Zc A.toNat;simp only [Xd];omega)
       have e3:Zb n++Zas l 0 c++Zb A.toNat++Zb (X.length:Int).toNat=Zb n++Zas l 0 (c+1):=by
        rw [Ze8,XL];unfold Zg8;rw [aL.z,<- HI.z,hX,<- HA.z,XY];simp only [Xk]
       rw [e3] at aA;have ac:=Y4 a8;have bK:=Y4 aA;have aQ:=Y4 au;have bh:=Y4 ab;have aw:(ZR l 0 I).length+X.length<=140737488355328:=by omega
       have S:=Y4 av;have aT:=Y4 HX.z;obtain ⟨px,cx,rfl,bR,bN⟩:=(Zd.brow aT.z).shape;have H:Y5 (I+16=16*(c+1)/\I+16<=n+15/\min (I+16) n=k):=Y4 ⟨by omega,by omega,by omega⟩
       have s0:(decide ((k:Int)<(n:Int))=true/\decide (k<n)=true/\decide ((k:Int)<(I:Int)+16)=false)\/(decide ((k:Int)<(n:Int))=false/\decide (k<n)=false):=by
        by_cases o:k<n
        ·exact .inl ⟨by rw [Xg];omega,Xs o,by rw [Xj];omega⟩
        ·exact .inr ⟨by rw [Xj];omega,Xz o⟩
       clear hX m aX Z ab au a5 az av a8 aA e3 HX ah C HA bJ aD;rcases s0 with ⟨s1,s2,s3⟩|⟨s1,s2⟩
       all_goals
        go_wp2_with fail;refine (ac.z _ S.z.oh).mono ?_;rintro e w6 ⟨v6,rfl,a9,aR⟩;have R:=Y4 (S.z.growH aR a9);clear a9 aR S;go_wp2_with fail;refine (bK.z _ _ R.z.oh).mono ?_;rintro e w7 ⟨v7,rfl,bd,bi⟩;have E:=Y4 (R.z.growH bi bd);clear bd bi R;have a6:=Y4 (Zgm aT.z (fun g hg=>(E.z.blk g hg).2));have bk:=Y4 (Zd.brow a6.z);have bg:=Y4 E.z.ob;go_wp2_with (at_builtin;refine Zn rfl _ _ rfl _ (ZR l 0 I) rfl bg.z _ X rfl bk.z aQ.z aw ?_)
        intro v8 w8 J aN;have ad:=(E.z.growB aN J).forget;rw [bh.z] at ad;have aM:=Y4 ad;clear J aN ad E;go_wp2_with fail;go_roundw
        case rel=>exact ⟨c+1,I+16,A,Y4 H.z.1,H.z.2.1,by go_num,rfl,Y4 (by rw [H.z.2.2];exact bB.z),Y4 (by rw [H.z.2.2];exact aM.z)⟩
        case measure=>simp [intOf];omega
    ·have t1:decide ((I:Int)<(n:Int))=false:=by simp;omega
     have t2:decide (I<n)=false:=Xz bc;have hc:c=ZK n:=by unfold ZK;have:=HI.z;omega
     have y:min I n=n:=by omega
     rw [y] at C;have s:=C.z;have bm:=Zbw x.z (i:=0) (k:=n) (by omega) (by rw [D.z];exact Xa _);have az:=ZeR l 0 c;have bo:=Zc n;have aD:=HI.z;have bG:=Y4 (Zd.from s.oh (fun k hk=>(s.fh k hk).1));have bq:=Y4 (Zd.brow s.ob);have a3:=Y4 s.low;have m:(Zb n++Zas l 0 c).length+(ZR l 0 n).length<=140737488355328:=by rw [Xd];omega
     have bp:=s.low.size;have bF:Y5 (SM.encS l=Zb n++(Zas l 0 c++ZR l 0 n)):=Y4 (by unfold SM.encS;rw [D.z,<- hc]);clear s bm az bo C y HA aD hc;go_wp2_with (at_builtin;refine Zh rfl _ _ rfl w.heap.size _ (Zb n++Zas l 0 c) rfl bG.z _ (ZR l 0 n) rfl bq.z m bp ?_)
     intro v8 w8 J aY;rw [<- bF.z] at J;have br:=Y4 J;have bA:=Y4 (a3.z.trans aY);clear J aY;go_wp2_with fail;go_ret2;exact ⟨_,rfl,br.z,bA.z⟩
 | false =>
   rw [hok] at B;rw [Xc (by simp),Xc (by simp)];clear hok hv Y;go_enter func41,ntmps41;go_wp2_with fail;refine B.z.mono ?_;rintro e w1 ⟨rfl,V⟩;have L:=Y4 V;clear V B;go_wp2_with fail;go_ret2;exact ⟨_,rfl,World.ownsRow_nil _ _ _ _,L.z⟩
