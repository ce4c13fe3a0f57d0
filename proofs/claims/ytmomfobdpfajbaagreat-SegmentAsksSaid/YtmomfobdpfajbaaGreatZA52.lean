import Derived.Test.YtmomfobdpfajbaaGreatZA23
import Derived.Test.YtmomfobdpfajbaaGreatZA14
set_option maxRecDepth 100000
set_option maxHeartbeats 0
set_option linter.unusedVariables false
set_option linter.unusedSimpArgs false
namespace Go.Proofs.YtmomfobdpfajbaaGreat
open Tryz
namespace BL
open RowKit MM BM
variable {w:World} {b n cap:Nat} {L:Xu} {S:Nat->Prop}
theorem Zaw (h:Zd b w (.slice (some ⟨b,0,none⟩) n cap) L) (d:0<L.length):b<w.heap.size:=by
 have c:=Zd.cell h (XZ d)
 by_cases a:b<w.heap.size
 ·exact a
 ·simp [World.cell?,Xau (XaR a)] at c
def ZjG (S:Nat->Prop) (w:World) (v:Value) (L:Xu):Prop:=∀w',Kep S w w'->Zv w' v L
theorem ZjG.row {v:Value} (h:ZjG S w v L):Zv w v L:=h w (Kep.refl S w)
theorem ZqO (h:Zd b w (.slice (some ⟨b,0,none⟩) n cap) L) (d:0<L.length) (c:S b):ZjG S w (.slice (some ⟨b,0,none⟩) n cap) L :=
 fun w' a=>(Zc2 h (a.block b (Zaw h d) c)).brow
theorem ZqX (x y:Obj) (a:∀k,S k->k<w.heap.size):Kep S (w.alloc x) (w.alloc y) :=
 ⟨rfl,rfl,rfl,by simp,fun k _ hs=>((Zu (fun _=>True) w y).block k (a k hs) trivial).trans ((Zu (fun _=>True) w x).block k (a k hs) trivial).symm⟩
def ZpT (S:Nat->Prop) (r:Xu×Nat) (w:World) (e:Ending) (w':World):Prop:=∃v,e=.returned (.tuple #[.agg #[v],.int .i64 (r.2:Int)])/\ZjG S w' v r.1/\Below w.heap.size w w'
theorem Zrj (S:Nat->Prop) (v:Value) (L:Xu) (ts:Value) (o:List Xu) (w:World) (h:ZjG S w v L) (hS:∀k,w.heap.size<=k->S k) (ht:ZcF w ts o) (bk:o.length<=200000) (hs:∀s∈o,s.length<=1000000) (aC:8<=L.length) (aW:L.length<=131072) :
  Calls prog 98 #[.agg #[v],ts] w (ZpT S (ZcG L o) w):=by
 obtain ⟨p,cap,rfl,bg,bh⟩:=h.row.shape;obtain ⟨tp,bf,rfl,bl,bi⟩:=TIn.shape ht;have aj:Below w.heap.size w ((w.alloc (.cells #[.slice p L.length cap] 44)).alloc (.cells #[.slice none 0 0] 44)):=((Below.refl _ _).alloc (Xa _) _).alloc (by simp) _;have N:((w.alloc (.cells #[.slice p L.length cap] 44)).alloc (.cells #[.slice none 0 0] 44)).heap.size=w.heap.size+1+1:=by simp
 have au:((w.alloc (.cells #[.slice p L.length cap] 44)).alloc (.cells #[.slice none 0 0] 44)).heap[w.heap.size]? = some (.cells #[.slice p L.length cap] 44 (0,0)):=by
  have e:=heap_alloc_new w (.cells #[.slice p L.length cap] 44);rw [((Below.refl (w.heap.size+1) (w.alloc (.cells #[.slice p L.length cap] 44))).alloc (by simp) _).block w.heap.size (by omega)];exact e
 have ap:Zfz ((w.alloc (.cells #[.slice p L.length cap] 44)).alloc (.cells #[.slice none 0 0] 44)) (w.heap.size+1):=by
  have e:=heap_alloc_new (w.alloc (.cells #[.slice p L.length cap] 44)) (.cells #[.slice none 0 0] 44);rw [show (w.alloc (.cells #[.slice p L.length cap] 44)).heap.size=w.heap.size+1 by simp] at e;exact e
 obtain ⟨W1,aq⟩:=Xn ((w.alloc (.cells #[.slice p L.length cap] 44)).alloc (.cells #[.slice none 0 0] 44));rw [aq] at aj N au ap;have aJ:ZjG (fun k=>S k/\k≠w.heap.size/\k≠w.heap.size+1) W1 (.slice p L.length cap) (ZcG L (o.take 0)).1:=fun w' hk=>h w' ((Za S aj).andThen hk fun i hi hs=>⟨hs,by omega,by omega⟩);have HT:=Y4 (fun W (hb:Below w.heap.size w W)=>TIn.below ht hb);have aT:=Y4 (fun v M s W (hr:Zv W v M) (hs:List.length s<=1000000) (hl:M.length=L.length)=>Zzi v M s W hr hs (by omega) (by omega));have a6:=Y4 (fun k=>Zly L o k);have aZ:=Y4 (Zlx L o);have a5:=Y4 (fun k (hk:k<o.length)=>ZhC (L:=L) hk);have bb:=Y4 hs;obtain ⟨R,hR⟩:=Xn (ZcG L o);have HE:Y5 (ZcG L (o.take o.length)=R):=Y4 (by rw [XB];exact hR);have a2:=Y4 aC;rw [hR];have a1:=Y4 aq;have aN:=Y4 aj;have aO:=Y4 au;have aM:=Y4 ap;have a8:=Y4 hS;have aU:=Y4 aJ;have be:=Y4 N;clear h ht hs aj N au ap aq aJ hR aC aW hS;go_enter func98,ntmps98;go_wp2_with fail;rw [a1.z]
 go_loopw [6,7] (fun nv iv wr=>∃(k:Nat) (u:Value),k<=o.length/\nv=.int .i64 ((ZcG L (o.take k)).2:Int)/\iv=.int .i64 k/\Y5 (wr.heap[w.heap.size]? = some (.cells #[u] 44 (0,0)))/\Y5 (ZjG (fun k=>S k/\k≠w.heap.size/\k≠w.heap.size+1) wr u (ZcG L (o.take k)).1)/\Y5 (Zfz wr (w.heap.size+1))/\Y5 (Below w.heap.size w wr)) (fun _ iv _=>o.length - (intOf iv).toNat)
 case atStart=>exact ⟨0,_,by omega,rfl,rfl,aO,aU,aM,aN⟩
 case round =>
  obtain ⟨k,u,hk,rfl,rfl,HG,HH,D,HB⟩:=hrel;clear aO aU aM aN
  by_cases ax:k<o.length
  ·have t1:decide ((k:Int)<(o.length:Int))=true:=by simp;omega
   obtain ⟨bt,off,rfl,J,G⟩:=TIn.at_ (HT.z wr HB.z) ax;have F:=a5.z k ax;have aP:=aZ.z k;have ab:=a6.z k;have aA:=bb.z _ (XI ax);obtain ⟨s,hs⟩:=Xn (o[k]);rw [hs] at G F aA;obtain ⟨⟨M,c⟩,hM⟩:∃M,ZcG L (o.take k)=M:=⟨_,rfl⟩;rw [hM] at F aP ab HH ⊢;dsimp only at F aP ab HH ⊢;obtain ⟨⟨g,c'⟩,aB⟩:∃g,ZlB M s=g:=⟨_,rfl⟩;have aL:=ZlC M s;have t:=ZlD M s;have Z:=fun W (hr:Zv W u M)=>aT.z u M s W hr aA ab;rw [aB] at F aL t;simp only [aB] at Z;dsimp only at F aL t;obtain ⟨V,f,rfl,_,_⟩:=HH.z.row.shape;have am:=Y4 F;have aK:=Y4 Z;have av:=Y4 (show 8<=g.length by rw [t,ab];exact a2.z);clear hs F hM aB aA t Z ab;obtain ⟨a,ar⟩:=Xn wr.drew;have ah:Kep (fun _=>True) wr a:=by rw [<- ar];exact Zcg _ _
   have ad:Below w.heap.size w a:=by rw [<- ar];exact HB.z.drew
   have az:a.heap[w.heap.size]? = _:=(ah.block w.heap.size (Xq.1 HG.z).1 trivial).trans HG.z;have Y:Zv a (.slice V M.length f) M:=HH.z a (ah.mono fun _ _=>trivial);have r:Zfz a (w.heap.size+1):=(ah.block _ D.z.lt trivial).trans D.z;have bd:=r.lt;have aI:a.cell? ⟨bt,off+k,none⟩=some (.string ⟨s.toArray⟩):=(ad.cell (p:=⟨bt,off+k,none⟩) J).trans ((HB.z.cell (p:=⟨bt,off+k,none⟩) J).symm.trans G);have aS:a.cell? ⟨w.heap.size,0,none⟩=some (.slice V M.length f):=by rw [cell_of_row _ _ 0 _ _ _ az];rfl
   have aD:=Y4 az;have ag:=Y4 Y;have I:=Y4 r;have al:=Y4 ad;have f1:=fun W (hW:Kep (fun c=>c<a.heap.size) a W)=>(hW.cell (b:=bt) (XJ J ad.size) (XJ J ad.size) (off+k)).trans aI;have f2:=fun W (hW:Kep (fun c=>c<a.heap.size) a W)=>(hW.cell (b:=w.heap.size) (by omega) (show w.heap.size<a.heap.size by omega) 0).trans aS;have a7:=Y4 f1;have aV:=Y4 f2
   have ao:∀(y:World) (b c6 j:Nat),Zd b y (.slice (some ⟨b,0,none⟩) g.length j) g->w.heap.size+2<=b->b<y.heap.size->y.heap[w.heap.size]? = some (.cells #[.slice V M.length f] 44 (0,0))->Zfz y (w.heap.size+1)->Below w.heap.size w y ->
     (y.setCell ⟨w.heap.size,0,none⟩ (.slice (some ⟨b,0,none⟩) g.length j)).heap[w.heap.size]? = some (.cells #[.slice (some ⟨b,0,none⟩) g.length j] 44 (0,0)) /\
     ZjG (fun k=>S k/\k≠w.heap.size/\k≠w.heap.size+1) (y.setCell ⟨w.heap.size,0,none⟩ (.slice (some ⟨b,0,none⟩) g.length j)) (.slice (some ⟨b,0,none⟩) g.length j) g /\
     Zfz (y.setCell ⟨w.heap.size,0,none⟩ (.slice (some ⟨b,0,none⟩) g.length j)) (w.heap.size+1)/\Below w.heap.size w (y.setCell ⟨w.heap.size,0,none⟩ (.slice (some ⟨b,0,none⟩) g.length j)):=fun y b c6 j ho hb J hg r aY=>by
    obtain ⟨q1,q2,q3,q4⟩:=Zf2 hg (.slice (some ⟨b,0,none⟩) g.length j);have h8:=av.z;exact ⟨q3,ZqO (Zc2 ho (q4.block b J (by omega))) (by omega) ⟨a8.z b (by omega),by omega,by omega⟩,r.other (by omega),Zay _ aY (Xa _)⟩
   have an:=Y4 ao;clear ah ad az Y r aI aS f1 f2 G ao HG HH D HB;go_wp2_with fail;refine RT.Zal (T:=fun c=>c<a.heap.size) (.take 0<|.take 1<|.take 2<|.take 3<|.take 4<|.both 5 9 (.take 6<|.take 7<|.take 8<|.alone 9<|.alone 10<|.take 11<|.done) (.alone 5<|.take 6<|.take 7<|.take 8<|.alone 10<|.take 11<|.done)) (by kernel_rfl) (by kernel_rfl) rfl (by kernel_rfl) (fun _ _ d _ _ h=>by cases d<;>exact h) ?_;simp only [RT.Zt,XU,XV,XS];rw [ar];repeat (refine RT.take (by rfl) (by intro W hW;have g1:=a7.z W hW;have g2:=aV.z W hW;go_simp;with_reducible rfl) ?_;simp only [Act.put,Xm,Xo,Xl])
   refine RT.both ?_ ?_
   ·refine RT.step (by rfl) (fun K C => ?_);go_simp;refine (aK.z _ ag.z).mono ?_;rintro e H ⟨v5,rfl,m,z⟩;change Zd a.heap.size H v5 g at m;go_simp;refine C.z _ _ (Za _ z) ?_;clear C K;have h8:=av.z;obtain ⟨b,j,rfl,af,_,_⟩:=Zd.shape m (by omega);have q:=Zaw (ZiC m) (by omega);have aw:=Y4 (ZiC m);have O:=Y4 z;have ai:=Y4 q;clear m z q h8;repeat (refine RT.take (by rfl) (by intro W hW;go_simp;with_reducible rfl) ?_;simp only [Act.put,Xm,Xo,Xl])
    refine RT.alone (RT.step (by rfl) (fun K C => ?_));go_simp;refine C.z _ _ (Zu _ _ _) ?_;clear C K;refine RT.alone (RT.step (by rfl) (fun K C => ?_));have ak:=O.z.size;have q:=ai.z;go_simp;refine C.z _ _ (ZqX _ _ fun c hc=>by have:c<a.heap.size:=hc;omega) ?_;clear C K;have E:=heap_alloc_new H (.cells #[.slice (some ⟨b,0,none⟩) g.length j] 44);have aR:=Zu (fun _=>True) H (.cells #[.slice (some ⟨b,0,none⟩) g.length j] 44);have X:=Zc2 aw.z (aR.block b ai.z trivial);have x:Below a.heap.size a (H.alloc (.cells #[.slice (some ⟨b,0,none⟩) g.length j] 44)):=O.z.alloc ak _;have aa:(H.alloc (.cells #[.slice (some ⟨b,0,none⟩) g.length j] 44)).heap.size=H.heap.size+1:=by simp
    have ac:=I.z.lt;have l:=(x.block w.heap.size (by omega)).trans aD.z;have A:=I.z.keep x ac;have B:=al.z.trans (x.mono al.z.size);have U:=Y4 (an.z _ b H.heap.size j X (by omega) (by rw [aa];omega) l A B);obtain ⟨y,ae⟩:=Xn (H.alloc (.cells #[.slice (some ⟨b,0,none⟩) g.length j] 44));rw [ae] at U E l ⊢;have a4:y.cell? ⟨H.heap.size,0,none⟩=some (.slice (some ⟨b,0,none⟩) g.length j):=by rw [cell_of_row _ _ 0 _ _ _ E];rfl
    have a3:y.cell? ⟨w.heap.size,0,none⟩=some (.slice V M.length f):=by rw [cell_of_row _ _ 0 _ _ _ l];rfl
    have a9:=frozen_of_row y w.heap.size 0 _ _ l;clear E aR X x aa ac l A B ae ak q;repeat (refine RT.take (by rfl) (by intro W hW;go_simp;with_reducible rfl) ?_;simp only [Act.put,Xm,Xo,Xl])
    refine RT.done ?_;go_wp2_with fail;go_roundw
    case rel=>exact ⟨k+1,_,by omega,by rw [am.z];go_num,by go_num,Y4 U.z.1,by rw [am.z];exact Y4 U.z.2.1,Y4 U.z.2.2.1,Y4 U.z.2.2.2⟩
    case measure=>simp [intOf];omega
   ·refine RT.step (by rfl) (fun K C => ?_);go_simp;refine C.z _ _ (Zu _ _ _) ?_;clear C K;have E:=heap_alloc_new a (.cells #[.slice none 0 0] 44);have r:=(Below.refl a.heap.size a).alloc (Xa _) (.cells #[.slice none 0 0] 44);have ay:(a.alloc (.cells #[.slice none 0 0] 44)).heap.size=a.heap.size+1:=by simp
    obtain ⟨Wa,aG⟩:=Xn (a.alloc (.cells #[.slice none 0 0] 44));rw [aG] at E r ay ⊢;have bc:=Y4 E;have D:=Y4 r;have aQ:=Y4 ay;clear E r ay aG;refine RT.alone (RT.step (by rfl) (fun K C => ?_));go_simp;refine (aK.z _ (ag.z.below D.z)).mono ?_;rintro e H ⟨v5,rfl,m,z⟩;change Zd Wa.heap.size H v5 g at m;go_simp;have aE:=D.z.size;refine C.z _ _ (Za _ z) ?_;clear C K;have h8:=av.z;obtain ⟨b,j,rfl,af,_,_⟩:=Zd.shape m (by omega);have q:=Zaw (ZiC m) (by omega);have aw:=Y4 (ZiC m);have ai:=Y4 q;have aF:=(z.block a.heap.size (by have:=aQ.z;omega)).trans bc.z;have aX:=Y4 aF;have O:=Y4 (D.z.trans (z.mono aE));have ba:=Y4 (show a.heap.size<b by have:=aQ.z;omega);clear m z q h8 aF af aE;repeat (refine RT.take (by rfl) (by intro W hW;go_simp;with_reducible rfl) ?_;simp only [Act.put,Xm,Xo,Xl])
    refine RT.alone (RT.step (by rfl) (fun K C => ?_));obtain ⟨z1,z2,z3,z4⟩:=Zf2 aX.z (.slice (some ⟨b,0,none⟩) g.length j);have ak:=O.z.size;have q:=ai.z;have af:=ba.z;go_simp;refine C.z _ _ (z4.mono' fun c _ hc=>by show c≠a.heap.size;have:c<a.heap.size:=hc;omega) ?_;clear C K;have X:=Zc2 aw.z (z4.block b q (by omega));have x:Below a.heap.size a (H.setCell ⟨a.heap.size,0,none⟩ (.slice (some ⟨b,0,none⟩) g.length j)):=Zay _ O.z (Xa _);have aa:(H.setCell ⟨a.heap.size,0,none⟩ (.slice (some ⟨b,0,none⟩) g.length j)).heap.size=H.heap.size:=by simp
    have ac:=I.z.lt;have l:=(x.block w.heap.size (by omega)).trans aD.z;have A:=I.z.keep x ac;have B:=al.z.trans (x.mono al.z.size);have U:=Y4 (an.z _ b a.heap.size j X (by omega) (by rw [aa];omega) l A B);obtain ⟨y,ae⟩:=Xn (H.setCell ⟨a.heap.size,0,none⟩ (.slice (some ⟨b,0,none⟩) g.length j));rw [ae] at U z3 l ⊢;have a4:y.cell? ⟨a.heap.size,0,none⟩=some (.slice (some ⟨b,0,none⟩) g.length j):=by rw [cell_of_row _ _ 0 _ _ _ z3];rfl
    have a3:y.cell? ⟨w.heap.size,0,none⟩=some (.slice V M.length f):=by rw [cell_of_row _ _ 0 _ _ _ l];rfl
    have a9:=frozen_of_row y w.heap.size 0 _ _ l;clear z1 z2 z3 z4 X x aa ac l A B ae ak q af;repeat (refine RT.take (by rfl) (by intro W hW;go_simp;with_reducible rfl) ?_;simp only [Act.put,Xm,Xo,Xl])
    refine RT.done ?_;go_wp2_with fail;go_roundw
    case rel=>exact ⟨k+1,_,by omega,by rw [am.z];go_num,by go_num,Y4 U.z.1,by rw [am.z];exact Y4 U.z.2.1,Y4 U.z.2.2.1,Y4 U.z.2.2.2⟩
    case measure=>simp [intOf];omega
  ·obtain rfl:k=o.length:=by omega
   have t1:decide ((o.length:Int)<(o.length:Int))=false:=by simp
   rw [HE.z] at HH ⊢;obtain ⟨V,f,rfl,_,_⟩:=HH.z.row.shape;obtain ⟨rn,aH⟩:=Xn R.1.length;rw [aH] at HH HG;clear aH;obtain ⟨q1,q2,q3,q4⟩:=Zf2 D.z (.slice V rn f);have bj:wr.cell? ⟨w.heap.size,0,none⟩=some (.slice V rn f):=by rw [cell_of_row _ _ 0 _ _ _ HG.z];rfl
   have HQ:=Y4 q3;have a0:=Y4 (Zay (i:=0) (.slice V rn f) HB.z (by omega:w.heap.size<=w.heap.size+1));have Y:ZjG S (wr.setCell ⟨w.heap.size+1,0,none⟩ (.slice V rn f)) (.slice V rn f) R.1:=fun w' hk=>HH.z w' ((q4.mono fun k hk=>hk.2.2).trans (hk.mono fun k hk=>hk.1));have ag:=Y4 Y;clear q3 q4 Y;go_wp2_with fail;refine bodyPost_ret (Zee rfl _ _ (w.heap.size+1) _ rfl HQ.z) rfl ⟨_,rfl,ag.z,a0.z⟩
def ZAi (L:Xu) (w:World) (e:Ending) (w':World):Prop:=∃v,e=.returned (.agg #[v])/\Zv w' v L/\Below w.heap.size w w'
theorem Zlm (ts:Value) (f:List Xu) (w:World) (ht:ZcF w ts f) (ah:f.length<=200000) (hs:∀s∈f,s.length<=1000000):Calls prog 47 #[ts] w (ZAi (ZcG (Zfv f.length) f).1 w):=by
 obtain ⟨tp,J,rfl,an,am⟩:=TIn.shape ht;have hg:=heap_alloc_new w (.cells #[.slice none 0 0] 44);have G:=(Below.refl w.heap.size w).alloc (Xa _) (.cells #[.slice none 0 0] 44);have A:(w.alloc (.cells #[.slice none 0 0] 44)).heap.size=w.heap.size+1:=by simp
 obtain ⟨W1,z⟩:=Xn (w.alloc (.cells #[.slice none 0 0] 44));rw [z] at hg G A;have HN:=Y4 (Zzt f.length W1 (by omega));have d:=Zdf f.length;rw [<- Zjj] at d;have HT:=Y4 (fun W (G:Below w.heap.size w W)=>TIn.below ht G);have g:=Y4 (fun S v W (h:ZjG S W v (Zfv f.length)) (hS:∀k,W.heap.size<=k->S k) (ht:ZcF W (.slice tp f.length J) f)=>Zrj S v (Zfv f.length) _ f W h hS ht ah hs d.1 d.2);obtain ⟨⟨R,c⟩,hR⟩:∃R,ZcG (Zfv f.length) f=R:=⟨_,rfl⟩;rw [hR] at g ⊢;unfold ZpT at g;dsimp only at g ⊢;obtain ⟨N,hN⟩:=Xn (Zfv f.length);rw [hN] at HN g d;have t1:(min (f.length:Int) 262144)=(f.length:Int):=by omega
 have HG:=Y4 hg;have HB:=Y4 G;have ag:=Y4 A;have af:=Y4 z;have aj:=Y4 d;clear hR hN ht hg G A z d hs;go_enter func47,ntmps47;go_wp2_with fail;rw [af.z];refine HN.z.mono ?_;rintro e l ⟨v,rfl,ho,C⟩;have d:=aj.z;obtain ⟨b,F,rfl,ab,_,_⟩:=Zd.shape ho (by omega);have B:=ZiC ho;have T:=Zaw B (by omega);have M:=C.size;have hz:=ag.z;have u:=heap_alloc_new l (.cells #[.slice (some ⟨b,0,none⟩) N.length F] 44);have V:=Zu (fun _=>True) l (.cells #[.slice (some ⟨b,0,none⟩) N.length F] 44);have E:(l.alloc (.cells #[.slice (some ⟨b,0,none⟩) N.length F] 44)).heap.size=l.heap.size+1:=by simp
 have y:Below W1.heap.size W1 (l.alloc (.cells #[.slice (some ⟨b,0,none⟩) N.length F] 44)):=C.alloc M _;have aa:=Zc2 B (V.block b T trivial);have j:=(y.block w.heap.size (by omega)).trans HG.z;have U:ZjG (fun k=>k≠w.heap.size/\k≠l.heap.size) _ _ N:=ZqO aa (by omega) ⟨by omega,by omega⟩;have o:=HB.z.trans (y.mono HB.z.size);have p:=g.z _ _ _ U (fun k hk=>⟨by omega,by omega⟩) ((HT.z _ o).mono o.size);obtain ⟨W2,x⟩:=Xn (l.alloc (.cells #[.slice (some ⟨b,0,none⟩) N.length F] 44));rw [x] at u E j p o;have al:W2.cell? ⟨l.heap.size,0,none⟩=some (.slice (some ⟨b,0,none⟩) N.length F):=by rw [cell_of_row _ _ 0 _ _ _ u];rfl
 have HA:=Y4 p;have ad:=Y4 u;have ak:=Y4 j;have H:=Y4 o;have ai:=Y4 x;have Z:=Y4 E;have D:=Y4 (show w.heap.size<l.heap.size by omega);clear ho C d B T M hz u V E y aa j U o p x ab;go_wp2_with fail;rw [ai.z];refine HA.z.mono ?_;rintro e w3 ⟨v3,rfl,r,t⟩;obtain ⟨q,a,rfl,_,_⟩:=r.row.shape;have Y:=(t.block l.heap.size (by have:=Z.z;omega)).trans ad.z;have j:=(t.block w.heap.size (by have:=Z.z;have:=D.z;omega)).trans ak.z;obtain ⟨m,I⟩:=Xn R.length;rw [I] at r ⊢;obtain ⟨q1,q2,q3,q4⟩:=Zf2 Y (.slice q m a);have O:(w3.setCell ⟨l.heap.size,0,none⟩ (.slice q m a)).heap[w.heap.size]? = _:=(q4.block w.heap.size (Xq.1 j).1 (by have:=D.z;omega)).trans j;obtain ⟨y1,y2,y3,y4⟩:=Zf2 O (.slice q m a);have ao:(w3.setCell ⟨l.heap.size,0,none⟩ (.slice q m a)).cell? ⟨l.heap.size,0,none⟩=some (.slice q m a):=by rw [cell_of_row _ _ 0 _ _ _ q3];rfl
 have X:Zv ((w3.setCell ⟨l.heap.size,0,none⟩ (.slice q m a)).setCell ⟨w.heap.size,0,none⟩ (.slice q m a)) (.slice q m a) R:=r _ ((q4.mono fun k hk=>hk.2).trans (y4.mono fun k hk=>hk.1));have ac:=Y4 X;have ae:=Y4 (Zay (i:=0) (.slice q m a) (Zay (i:=0) (.slice q m a) (H.z.trans (t.mono H.z.size)) (by have:=D.z;omega:w.heap.size<=l.heap.size)) (Xa w.heap.size));have HY:=Y4 y3;clear r t Y j I q3 q4 O y3 y4 X;go_wp2_with fail;refine bodyPost_ret (v:=.agg #[.slice q m a]) (results_cell_row rfl _ _ w.heap.size 44 _ (0,0) _ rfl HY.z underlying44 rfl Zt8) rfl ⟨_,rfl,ac.z,ae.z⟩
end BL
namespace BL
open RowKit MM BM
theorem Zzs (v:Value) (L s:Xu) (w:World) (h:Zv w v L) (hs:s.length<=1000000) (O:8<=L.length) (I:L.length<=131072) :
  Calls prog 23 #[.agg #[v],.string ⟨s.toArray⟩] w fun e w'=>e=.returned (.bool (Zh2 L s))/\Below w.heap.size w w':=by
 obtain ⟨p,b,rfl,aa,ab⟩:=h.shape;have H:=Y4 (fun i (hi:i<4) W=>Zrn p L.length b s i W (by omega) O I hi);have HH:=Y4 (fun k W (B:Zv W (.slice p L.length b) L) (hk:k<8*L.length)=>Zru _ L k W B I hk);have T:Y5 (∀i,ZT (8*L.length) s i<8*L.length):=Y4 (fun i=>ZhQ s i (by omega));have HN:=Y4 (Zol L s);have HX:=Y4 (fun i (hi:i<4) j=>ZmA (L:=L) (s:=s) hi j);have HE:Y5 (Zmz L s 4=Zh2 L s):=Y4 rfl;obtain ⟨R,hR⟩:=Xn (Zh2 L s);rw [hR] at HX HE ⊢;have c:=Y4 ((Below.refl w.heap.size w).alloc (Xa _) (.cells #[.slice p L.length b] 44));have F:=Y4 (heap_alloc_new w (.cells #[.slice p L.length b] 44));have o:=Y4 (show (w.alloc (.cells #[.slice p L.length b] 44)).heap.size=w.heap.size+1 by simp);have HR:=Y4 h;have H0:Y5 (Zmz L s 0=true):=Y4 rfl;obtain ⟨A,q⟩:=Xn (w.alloc (.cells #[.slice p L.length b] 44));rw [q] at c F o;have Z:=Y4 q;clear h hR q;go_enter func23,ntmps23;go_wp2_with fail;rw [Z.z]
 go_loopw [5] (fun S wr=>∃i:Nat,i<=4/\S=.int .i64 i/\Y5 (Zmz L s i=true)/\Y5 (Below A.heap.size A wr)) (fun S _=>4 - (intOf S).toNat)
 case atStart=>exact ⟨0,by omega,rfl,H0,Y4 (Below.refl _ _)⟩
 case round =>
  obtain ⟨i,hi,rfl,HI,HB⟩:=hrel;clear H0
  by_cases D:i<4
  ·have t1:decide ((i:Int)<4)=true:=by simp;omega
   have G:=Y4 (H.z i D);have z:=HN.z i;rw [HI.z,Xac] at z;have J:=HX.z i D;have m:=T.z i;obtain ⟨X,U⟩:=Xn (ZT (8*L.length) s i);rw [U] at z J m;have x:=Y4 (G.z);simp only [U] at x;have C:=Y4 m;clear U G m;obtain ⟨wd,n⟩:=Xn wr.drew;have l:Below A.heap.size A wd:=by rw [<- n];exact HB.z.drew
   have E:=Y4 l;have a:=Y4 (c.z.trans (l.mono c.z.size))
   have M:∀W,RG.Za4 wd W->W.cell? ⟨w.heap.size,0,none⟩=some (.slice p L.length b):=fun W r=>by
    have h1:W.heap[w.heap.size]? = A.heap[w.heap.size]? := (r.block _ (by have:=l.size;have:=o.z;omega)).trans (l.block _ (by have:=o.z;omega));rw [cell_of_row W w.heap.size 0 _ _ _ (h1.trans F.z)];rfl
   cases hb:Zh1 L X with
   | true =>
     rw [hb] at z;have Y:=Y4 z;clear z J;go_wp2_with fail;refine RG.Zal [(0,true),(1,true),(2,true),(3,true),(4,false),(5,false),(6,true)] (by kernel_rfl) (by kernel_rfl) rfl (by kernel_rfl) (fun _ _ d _ _ h=>by cases d<;>exact h) ?_;simp only [RG.Zt,XC,XN,XU,XV,XS];rw [n];repeat (refine RG.take (by rfl) (by intro W r;have V:=M W r;go_simp;with_reducible rfl) ?_;simp only [Act.put,Xm,Xo,Xl])
     refine RG.alone (by rfl) (fun K f => ?_);go_simp;refine (x.z _).mono ?_;rintro e N ⟨rfl,g⟩;go_simp;refine f.z _ _ g ?_;clear f K;refine RG.alone (by rfl) (fun K f => ?_);go_simp;have j:=HH.z X N (HR.z.below (a.z.trans (g.mono a.z.size))) C.z;rw [hb] at j;refine j.mono ?_;rintro e w7 ⟨rfl,t⟩;go_simp;refine f.z _ _ t ?_;clear f K j;have u:=Y4 (E.z.trans ((grow g t).mono E.z.size));clear g t M hb;repeat (refine RG.take (by rfl) (by intro W r;go_simp;with_reducible rfl) ?_;simp only [Act.put,Xm,Xo,Xl])
     refine RG.done ?_;go_wp2_with fail;go_roundw
     case rel=>exact ⟨i+1,by omega,by go_num,Y,u⟩
     case measure=>simp [intOf];omega
   | false =>
     have y:=Y4 (J hb);clear z J;go_wp2_with fail;refine RG.Zal [(0,true),(1,true),(2,true),(3,true),(4,false),(5,false),(6,true)] (by kernel_rfl) (by kernel_rfl) rfl (by kernel_rfl) (fun _ _ d _ _ h=>by cases d<;>exact h) ?_;simp only [RG.Zt,XC,XN,XU,XV,XS];rw [n];repeat (refine RG.take (by rfl) (by intro W r;have V:=M W r;go_simp;with_reducible rfl) ?_;simp only [Act.put,Xm,Xo,Xl])
     refine RG.alone (by rfl) (fun K f => ?_);go_simp;refine (x.z _).mono ?_;rintro e N ⟨rfl,g⟩;go_simp;refine f.z _ _ g ?_;clear f K;refine RG.alone (by rfl) (fun K f => ?_);go_simp;have j:=HH.z X N (HR.z.below (a.z.trans (g.mono a.z.size))) C.z;rw [hb] at j;refine j.mono ?_;rintro e w7 ⟨rfl,t⟩;go_simp;refine f.z _ _ t ?_;clear f K j;have u:=Y4 (a.z.trans ((grow g t).mono a.z.size));clear g t M hb;repeat (refine RG.take (by rfl) (by intro W r;go_simp;with_reducible rfl) ?_;simp only [Act.put,Xm,Xo,Xl])
     refine RG.done ?_;go_wp2_with fail;go_ret;rw [y.z.symm];exact ⟨rfl,u.z⟩
  ·obtain rfl:i=4:=by omega
   have t1:decide ((4:Int)<4)=false:=by simp
   have B:=HE.z;rw [HI.z] at B;have y:=Y4 B;have a:=Y4 (c.z.trans (HB.z.mono c.z.size));clear B;go_wp2_with fail;go_ret;rw [y.z.symm];exact ⟨rfl,a.z⟩
