import Derived.Test.YtmomfobdpfajbaaGreatZA18
import Derived.Test.YtmomfobdpfajbaaGreatZA49
import Derived.Test.YtmomfobdpfajbaaGreatZA44
import Derived.Test.YtmomfobdpfajbaaGreatZA42
set_option maxRecDepth 100000
set_option maxHeartbeats 0
set_option linter.unusedVariables false
set_option linter.unusedSimpArgs false
namespace Go.Proofs.YtmomfobdpfajbaaGreat
open Tryz
namespace SG
open RowKit MM
open EV (ZD Zae Z2 Znh Zcq Zm3)
open EM (Z1 Trm Zz Zak Zep Zg)
open RM (Zd5 ZoZ ZrR ZjS ZnR ZiR ZoU ZpW)
open SM (Zq)
open GM (Zp evs)
def ZuB (rows:List ZgP) (w:World) (e:Ending) (w':World):Prop:=∃v a,e=.returned v/\RAt w.heap.size w' v a rows/\Below w.heap.size w w'
theorem RAt.new {B:Nat} {w:World} {v:Value} {a:List Value} {rows:List ZgP} (h:RAt B w v a rows) {b:Nat} (hb:w.heap.size<=b):ZdR v a b :=
 ⟨fun e=>by have:=(RowsAt.olt h e).2;omega,fun u c e=>by obtain ⟨i,hi,rfl⟩:=Xbc c;have:=(RowsAt.ilt h hi e).2;omega⟩
theorem ZoH (v:Value) (l:List Zq) (w:World) (hv:ZF ZD w v l) (hn:l.length<=65536):Calls prog 17 #[v] w (ZuB (Zp l) w):=by
 have bn:prog.follows .mixedOrders=true:=by kernel_rfl
 obtain ⟨p,bV,rfl,bQ,bE,_⟩:=hv.shape;unfold maxLen at bE;have HV:=Y4 hv;have a0:(evs l).length=l.length:=XF _;have HN:=Y4 (fun (i:Nat) (hi:i<l.length)=>(show Zd5 (evs l) (i+1)=Zz (Zd5 (evs l) i) (ZjS (i:Int) (Z1 l[i].2)) by rw [ZoZ (by rw [a0];exact hi)];simp [evs]));have bj:Y5 (Zd5 (evs l) l.length=Zp l):=Y4 (by rw [<- a0];exact ZrR _);have bo:Y5 (RAt w.heap.size w (.slice none 0 0) [] (Zd5 (evs l) 0)):=Y4 (RowsAt.nil_ _);have bc:Y5 (ZiR (65536*0) (Zd5 (evs l) 0)):=Y4 ⟨Xa _,fun _ h=>(by cases h)⟩;clear hv a0;go_enter func17,ntmps17;go_wp2_with fail
 go_loopw [3,4] (fun lv iv wr=>∃(i:Nat) (D:List Value),i<=l.length/\iv=.int .i64 i/\Y5 (RAt w.heap.size wr lv D (Zd5 (evs l) i))/\Y5 (ZiR (65536*i) (Zd5 (evs l) i))/\Y5 (Below w.heap.size w wr)) (fun _ iv _=>l.length - (intOf iv).toNat)
 case atStart=>exact ⟨0,[],by omega,rfl,bo,bc,Y4 (Below.refl _ _)⟩
 case round =>
  obtain ⟨i,bA,hi,rfl,HR,HF,HB⟩:=hrel;clear bo bc
  by_cases ah:i<l.length
  ·obtain ⟨wo,bM⟩:∃wo,wo=wr:=⟨_,rfl⟩;subst bM;have t1:decide ((i:Int)<(l.length:Int))=true:=Xt;have t2:(i:Int)<(l.length:Int):=by omega
   obtain ⟨b,off,vf,rfl,bR,_,bC,c2,bH,hf⟩:=Z2 (HV.z.below HB.z) ah;have ai:=HN.z i ah;obtain ⟨⟨sq,z,fs⟩,hd⟩:∃d,l[i]=d:=⟨_,rfl⟩;rw [hd] at c2 hf ai;change wo.cell? ⟨b,off+i*3+1,none⟩=some (.int .i64 z) at c2;change ZB Zae _ wo vf fs at hf;have HT:=Y4 (Zm3 z vf fs wo hf.any);obtain ⟨pf,cf,rfl,_⟩:=hf.shape;have bz:=ZoU (z,fs);obtain ⟨T,hT⟩:=Xn (Z1 (z,fs));change Zd5 (evs l) (i+1)=Zz (Zd5 (evs l) i) (ZjS (i:Int) (Z1 (z,fs))) at ai;obtain ⟨R,hR⟩:=Xn (Zd5 (evs l) i);rw [hT] at HT ai bz;rw [hR] at HR HF ai;have bL:=Y4 ai;have bG:=Y4 ah;obtain ⟨pl,cl,F,_⟩:=RowsAt.shape HR.z;subst F;clear hf ai hT hd ah hR bC;go_wp2_with fail;refine HT.z.mono ?_;rintro e w5 ⟨tv,rfl,aY,aN⟩;have bd:=Y4 (Zf0 HB.z aN);have a7:=Y4 (RowsAt.below HR.z aN);have br:=Y4 (ZB.weak aY fun b _ A=>RAt.new HR.z A);obtain ⟨pt,ct,rfl,bX,bI,_⟩:=aY.shape;unfold maxLen at bI;have bm:Y5 (ZiR (65536*i+0) R):=HF;clear aY aN HT c2 bH HR HF HB;go_wp2_with fail
   go_loopw [3,6] (fun lv jv wk=>∃(j:Nat) (D:List Value),j<=T.length/\jv=.int .i64 j/\Y5 (RAt w.heap.size wk lv D (Zz R (ZjS (i:Int) (T.take j))))/\Y5 (ZiR (65536*i+j) (Zz R (ZjS (i:Int) (T.take j))))/\Y5 (ZB Zcq (fun b=>ZdR lv D b) wk (.slice pt T.length ct) T)/\Y5 (Below w.heap.size w wk)) (fun _ jv _=>T.length - (intOf jv).toNat)
   case atStart=>exact ⟨0,bA,by omega,by go_simp,a7,bm,br,bd⟩
   case round =>
    obtain ⟨j,D,hj,rfl,Y,af,aH,aX⟩:=hrel;clear a7 bm br bd;obtain ⟨wk,bv⟩:∃wk,wk=wr:=⟨_,rfl⟩;subst bv
    by_cases aa:j<T.length
    ·have s1:decide ((j:Int)<(T.length:Int))=true:=Xt;have s2:(j:Int)<(T.length:Int):=by omega
     obtain ⟨bt,ot,vt,rfl,aB,bW,d1,d2,L⟩:=Znh aH.z aa;have aw:=ZnR aa (i:Int) R;obtain ⟨⟨s,zs⟩,hx⟩:∃t,T[j]=t:=⟨_,rfl⟩;rw [hx] at d1 L aw;dsimp only at d1 L aw;obtain ⟨M,hM⟩:=Xn (Zz R (ZjS (i:Int) (T.take j)));rw [hM] at Y af aw;obtain ⟨pz,cz,rfl,_⟩:=L.shape;have a5:=Y4 (ZdK _ M s wk (RAt.row Y.z));obtain ⟨pm,cm,F,bP,bw,_⟩:=RowsAt.shape Y.z;subst F;unfold maxLen at bw;have aA:=Y4 aw;have bi:=Y4 aa;have HZ:=Y4 L;have bT:=af.z.1;clear hx hM L aw aa;go_wp2_with fail;refine a5.z.mono ?_;rintro e w7 ⟨⟨k,rfl,aZ⟩,al⟩;have am:=Y4 aZ;have ay:=aZ.1;obtain ⟨w8,az⟩:=Xn (w7.alloc (.cells #[.int .i64 (i:Int),.slice pz zs.length cz] 125));have V:Below wk.heap.size wk w8:=by rw [<- az];exact al.alloc al.size _
     obtain ⟨q8,aO⟩:=Xn w7.heap.size;have g8:w8.heap[q8]? = some (.cells #[.int .i64 (i:Int),.slice pz zs.length cz] 125 (0,0)):=by rw [<- az,<- aO];exact heap_alloc_new _ _
     have bO:=Y4 (fun (n:Nat) (hn:n<D.length) (g:Nat) (hg:D[n].ownBlock=some g)=>(RowsAt.ilt Y.z hn hg).2);have bB:Y5 (wk.heap.size<=q8):=Y4 (by rw [<- aO];exact al.size);have C:=Y4 (RowsAt.below Y.z V);have ax:=Y4 (ZB.keep aH.z (Za _ V) fun _ _ h=>h);have aC:=Y4 (ZB.keep HZ.z (Za _ V) fun _ _ h=>h);have aD:=Y4 (Zf0 aX.z V);have e1:=(V.cell (p:=⟨bt,ot+j*2,none⟩) aB).trans d1;have e2:=(al.cell (p:=⟨bt,ot+j*2+1,none⟩) aB).trans d2;have ae:=Y4 g8;have bx:=Y4 e1;have a1:=Y4 az;have HQ:=Y4 aO;have bK:Y5 (bt<w8.heap.size):=Y4 (XJ aB V.size);clear aZ al V az g8 d1 a5 Y aH HZ aX aB
     by_cases J:∃hk:k<M.length,(M[k]).1=s
     ·obtain ⟨m,hs⟩:=J;have f:k<D.length:=by rw [C.z.len];exact m
      obtain ⟨g,cg,F,ba,bf,x1,x2,_⟩:=RowsAt.at_ C.z f m;simp only [Value.slice.injEq,true_and] at F;obtain ⟨rfl,rfl⟩:=F;have a2:D[k].ownBlock≠some q8:=fun e=>by have:=bO.z k f q8 e;have:=bB.z;omega
      have aQ:D[k].ownBlock≠some g:=fun e=>RowsAt.z C.z (by decide) f e rfl;have ad:=ZpW ((i:Int),zs) m am.z.2.1 hs;have aj:=af.z.2 _ (XI m);have ac:=Y4 (RAt.owns C.z f m);obtain ⟨⟨x,ps⟩,hx⟩:∃t,M[k]=t:=⟨_,rfl⟩;have HX:=Y4 (show ∀h:k<M.length,M[k]=(x,ps) from fun _=>hx);rw [hx] at x1 hs ad aj ac;obtain ⟨uk,y⟩:=Xn (D[k]);have bp:=Y4 (show ∀h:k<D.length,D[k]=uk from fun _=>y);rw [y] at x2 a2 aQ ac;dsimp only at x1 hs ad aj ac;have bs:=Y4 x2;have bJ:=Y4 aQ;have bl:=Y4 a2;have aL:=Y4 ad;have bD:=Y4 aj;have aR:=Y4 f;have aV:=Y4 m;have a8:=Y4 ba;have q1:decide ((k:Int)<(M.length:Int))=true:=Xt;have q2:(k:Int)<(M.length:Int):=by omega
      have q3:decide (k<M.length)=true:=Xs m;have r3:(x == s)=true:=by rw [Xaj];exact hs
      have aG:=Zc3 x s;have r1:decide (x=s)=true:=Xs hs;rw [r1] at aG;clear hs ad aj a2 aQ hx y x2 f m bf;go_wp2_with (first|(rw [a1.z])|(rw [HQ.z]))
      go_quiet (fail)
      go_wp2_with fail;obtain ⟨I,U⟩:=Xn ((w8.drewN nq).drew);have c:Below w8.heap.size w8 I:=by rw [<- U];exact (MM.below_drewN (Below.refl _ _) nq).drew
      have r:=Y4 (RowsAt.below C.z c);have f:=aR.z;have m:=aV.z;have bb:=Y4 (ac.z.keep (Za (fun _=>True) c) (fun _ _ _=>trivial) fun _ _=>trivial);have ar:=Y4 (ZB.keep aC.z (Za _ c) fun _ _ h=>h);have an:=Y4 (ZB.keep ax.z (Za _ c) fun _ _ h=>h);have H:=Y4 (Zf0 aD.z c);have G:q8<w8.heap.size:=(Xq.1 ae.z).1
      have HL:=Y4 (fun W (X:Kep (fun b=>uk.ownBlock≠some b) I W)=>(show W.cell? ⟨g,k*2+1,none⟩=some uk/\W.cell? ⟨q8,0,none⟩=some (.int .i64 (i:Int))/\W.cell? ⟨q8,1,none⟩=some (.slice pz zs.length cz) from
       ⟨(X.cell (XJ a8.z c.size) bJ.z _).trans ((c.cell (p:=⟨g,k*2+1,none⟩) a8.z).trans bs.z),(X.cell (XJ G c.size) bl.z _).trans ((c.cell (p:=⟨q8,0,none⟩) G).trans (Zf ae.z 0)),(X.cell (XJ G c.size) bl.z _).trans ((c.cell (p:=⟨q8,1,none⟩) G).trans (Zf ae.z 1))⟩))
      have aM:=Y4 U;clear U c G f m C ax aC aD x1 e1 e2 d2 r3 r1 aG q1;refine RS.Zal (T:=fun b=>uk.ownBlock≠some b) [(0,true),(1,true),(2,true),(3,true),(4,true),(5,true),(6,true),(7,true),(8,false),(9,false),(10,true),(11,true)] bn (by kernel_rfl) (fun _ _ d _ _ h=>by cases d<;>exact h) ?_;simp only [RS.Zt,XC,XN,XU,XV,XS];rw [aM.z];repeat (refine RS.take (by rfl) (by intro W X;obtain ⟨f1,f2,f3⟩:=HL.z W X;go_simp;with_reducible rfl) ?_;simp only [Act.put,Xm,Xo,Xl])
      refine RS.alone (by rfl) (fun K u => ?_);go_simp;refine u.z _ _ (Zu _ _ _) ?_;clear u K;refine RS.alone (by rfl) (fun K u => ?_);have aj:=bD.z;refine Zd6 Zy5 (S:=fun b=>ZdR (.slice (some ⟨g,0,none⟩) M.length cm) D b) _ _ rfl uk ps I [.int .i64 (i:Int),.slice pz zs.length cz] ((i:Int),zs) rfl rfl bb.z (Zll.2 ⟨_,rfl,ar.z⟩) rfl (by unfold maxLen;omega) (by omega) ?_;intro v' w3 aT Z a3 aK;refine u.z _ _ aK ?_;clear u K aj;obtain ⟨pv,cv,a9,_⟩:=(Zbj.any aT).shape;obtain ⟨NL,bu⟩:=Xn ((ps++[((i:Int),zs)]).length);rw [bu] at a9;subst a9;repeat (refine RS.take (by rfl) (by intro W X;go_simp;with_reducible rfl) ?_;simp only [Act.put,Xm,Xo,Xl])
      refine RS.done ?_;simp only [Xh,Xv,XaW,Xap,XL,Nat.reduceAdd];have f:=aR.z;have ak:=aV.z;have y:=bp.z f;have bk:=HX.z ak;have y2:=(HL.z w3 Z).1;have aJ:=(r.z.outer).keep Z (fun _ _ h=>h.elim) fun g' bF e=>RowsAt.z r.z (by decide) f (by rw [y];exact e) bF;have y3:=ZBr aJ (k*2+1);have bS:I.heap.size<=w3.heap.size:=Z.size;have aI:w.heap.size<=I.heap.size:=H.z.size;have hR:=RAt.hits r.z aI f ak (u':=.slice pv NL cv) (es:=ps++[((i:Int),zs)]) aT (by rw [y];exact Z) (by rw [y];exact a3) rfl;rw [bk,<- aL.z,<- aA.z] at hR;have aS:Kep (fun b=>b≠g) w3 (w3.setCell ⟨g,k*2+1,none⟩ (.slice pv NL cv)):=Zy (fun h=>h rfl) _;have aq:=Y4 hR
      have au:Y5 (ZB Zcq (fun b=>ZdR (.slice (some ⟨g,0,none⟩) M.length cm) (D.set k (.slice pv NL cv)) b) (w3.setCell ⟨g,k*2+1,none⟩ (.slice pv NL cv)) (.slice (some ⟨bt,ot,none⟩) T.length ct) T):=Y4 (by
       have h1:ZB Zcq (fun b=>b<I.heap.size/\ZdR (.slice (some ⟨g,0,none⟩) M.length cm) D b) I (.slice (some ⟨bt,ot,none⟩) T.length ct) T:=ZB.weak an.z fun b A h=>⟨A,h⟩;have h2:=ZB.keep h1 ((Z.mono fun b (A:b<I.heap.size/\ZdR (.slice (some ⟨g,0,none⟩) M.length cm) D b)=>A.2.2 uk (by rw [<- y];exact XI f))) fun _ _ h=>h;have h3:=ZB.keep h2 (aS.mono fun b A e=>A.2.1 (by rw [e];rfl)) fun _ _ h=>h;exact ZB.weak h3 fun b _ A=>Zx3 f A.1 A.2 (by rw [y];exact a3))
      have av:Y5 (Below w.heap.size w (w3.setCell ⟨g,k*2+1,none⟩ (.slice pv NL cv))):=Y4 ((H.z.trans (Z.below (B:=w.heap.size) aI fun b A e=>by have:=(RowsAt.ilt r.z f (by rw [y];exact e)).1;omega)).trans (aS.below (B:=w.heap.size) (by omega) fun b A=>by have:=(RowsAt.olt r.z (g:=g) rfl).1;omega));have ao:Y5 (ZiR (65536*i+(j+1)) (Zz R (ZjS (i:Int) (T.take (j+1))))):=Y4 (by rw [aA.z];exact af.z.add s _);clear hR aJ y bk aT Z a3 aK aS f ak aL HX bp aR aV r an ar H bb HL;go_wp2_with fail;have aa:=bi.z;go_roundw
      case rel=>exact ⟨j+1,D.set k (.slice pv NL cv),by omega,by go_num,aq,ao,au,av⟩
      case measure=>simp [intOf];omega
     ·have ap:Zak M s ((i:Int),zs)=M.take k++(s,[((i:Int),zs)])::M.drop k:=Zep _ ay am.z.2.1 fun hk=>⟨am.z.2.2 hk,fun e=>J ⟨hk,e⟩⟩;have aW:=Y4 ap;clear ap
      by_cases ag:k<M.length
      case' pos =>
       have f:k<D.length:=by rw [C.z.len];exact ag
       obtain ⟨g,cg,F,ba,bf,x1,x2,_⟩:=RowsAt.at_ C.z f ag;simp only [Value.slice.injEq,true_and] at F;obtain ⟨rfl,rfl⟩:=F;obtain ⟨⟨x,ps⟩,hx⟩:∃t,M[k]=t:=⟨_,rfl⟩;have hs:x≠s:=fun e=>J ⟨ag,by rw [hx];exact e⟩;rw [hx] at x1;dsimp only at x1;have q1:decide ((k:Int)<(M.length:Int))=true:=Xt;have q2:(k:Int)<(M.length:Int):=by omega
       have q3:decide (k<M.length)=true:=Xs ag;have r3:(x == s)=false:=by rw [X6];exact hs
       have aG:=Zc3 x s;have r1:decide (x=s)=false:=Xz hs;rw [r1] at aG;clear hs J hx x2 ag f;go_wp2_with (first|(rw [a1.z])|(rw [HQ.z]))
       go_quiet (fail)
       go_wp2_with fail;generalize (some (⟨g,0,none⟩:Addr))=pm at *
      case' neg =>
       have q1:decide ((k:Int)<(M.length:Int))=false:=Xf;have q3:decide (k<M.length)=false:=Xz ag;clear J;go_wp2_with (first|(rw [a1.z])|(rw [HQ.z]))
       go_quiet (fail)
       go_wp2_with fail
      all_goals
       obtain ⟨I,U⟩:=Xn ((w8.drewN nq).drew);have c:Below w8.heap.size w8 I:=by rw [<- U];exact (MM.below_drewN (Below.refl _ _) nq).drew
       have r:=Y4 (RowsAt.below C.z c);have an:=Y4 (ZB.keep ax.z (Za _ c) fun _ _ h=>h);have H:=Y4 (Zf0 aD.z c);have ar:=Y4 (RAt.low r.z (ZB.keep aC.z (Za _ c) fun _ _ h=>h));have G:q8<w8.heap.size:=(Xq.1 ae.z).1
       have HL:=Y4 (fun W (X:Kep (fun b=>b<I.heap.size) I W)=>(show W.cell? ⟨bt,ot+j*2,none⟩=some (.string ⟨s.toArray⟩)/\W.cell? ⟨q8,0,none⟩=some (.int .i64 (i:Int))/\W.cell? ⟨q8,1,none⟩=some (.slice pz zs.length cz) from
        have hh:∀{b:Nat} (i:Nat),b<w8.heap.size->W.cell? ⟨b,i,none⟩=w8.cell? ⟨b,i,none⟩:=fun {b} i A=>(X.cell (XJ A c.size) (XJ A c.size) i).trans (c.cell (p:=⟨b,i,none⟩) A)
        ⟨(hh _ bK.z).trans bx.z,(hh _ G).trans (Zf ae.z 0),(hh _ G).trans (Zf ae.z 1)⟩))
       obtain ⟨ZP,aP⟩:=Xn (List.zip (M.map (·.1)) D);have ab:=RAt.old r.z;have bg:=RowsAt.zlen r.z;rw [aP] at ab bg;have bh:(ZP.take k).length<=8589934592:=by rw [Xi];omega
       have a4:(ZP.drop k).length<=8589934592:=by rw [Xp];omega
       have be:=Y4 (fun W (X:Below I.heap.size I W)=>Zup ((Ze0.below ab X).take k ay));have bq:=Y4 (fun W (X:Below I.heap.size I W)=>Zup ((Ze0.below ab X).drop k ay));have E:=Y4 (RAt.start r.z);have a6:=Y4 aP;have aM:=Y4 U;have aF:=Y4 bh;have aE:=Y4 a4;have bU:(k:Int)<=(cm:Int):=by omega
       have m:(k:Int)<=(M.length:Int):=by omega
       clear U c G aP ab bg bh a4 C ax aC aD e1 e2 d2;refine RT.Zal (T:=fun b=>b<I.heap.size) (.take 1<|.take 2<|.take 3<|.take 5<|.take 6<|.take 7<|.take 8<|.take 9<|.take 10<|.take 15<|.take 16<|.take 17<|.both 0 11 (.both 4 11 (.alone 11<|.take 12<|.alone 13<|.alone 14<|.alone 18<|.take 19<|.done) (.take 12<|.both 4 13 (.alone 13<|.alone 14<|.alone 18<|.take 19<|.done) (.alone 4<|.alone 14<|.alone 18<|.take 19<|.done))) (.take 12<|.both 0 13 (.both 4 13 (.alone 13<|.alone 14<|.alone 18<|.take 19<|.done) (.alone 4<|.alone 14<|.alone 18<|.take 19<|.done)) (.alone 0<|.alone 4<|.alone 14<|.alone 18<|.take 19<|.done))) bn (by kernel_rfl) rfl (by kernel_rfl) (fun _ _ d _ _ h=>by cases d<;>exact h) ?_;simp only [RT.Zt,XU,XV,XS];rw [aM.z];repeat (refine RT.take (by rfl) (by intro W X;obtain ⟨f1,f2,f3⟩:=HL.z W X;go_simp;with_reducible rfl) ?_;simp only [Act.put,Xm,Xo,Xl])
       repeat' (first
        | (with_reducible refine RT.both ?_ ?_)
        | (with_reducible refine RT.alone ?_)
        | ((with_reducible apply RT.take);rfl;(intro W X;go_simp;with_reducible rfl);simp only [Act.put,Xm,Xo,Xl])
        | ((with_reducible refine RT.step (o:=⟨some 70,_,_,_,_,_⟩) ?_ (fun K u => ?_));rfl;go_simp;refine Mk.doE E.z u (fun W1 N => ?_);clear u K;replace E:=Y4 N;clear N;try simp only [Act.put,Xm,Xo,Xl])
        | ((with_reducible refine RT.step (o:=⟨some 81,_,_,_,_,_⟩) ?_ (fun K u => ?_));rfl;go_simp;refine Mk.doP E.z ar.z u (fun W1 N => ?_);clear u K;replace E:=Y4 N;clear N;try simp only [Act.put,Xm,Xo,Xl])
        | ((with_reducible refine RT.step (o:=⟨some 83,_,_,_,_,_⟩) ?_ (fun K u => ?_));rfl;go_simp;refine Mk.doR E.z u (fun W1 N => ?_);clear u K;replace E:=Y4 N;clear N;try simp only [Act.put,Xm,Xo,Xl])
        | ((with_reducible refine RT.step (o:=⟨some 74,_,_,_,_,_⟩) ?_ (fun K u => ?_));rfl;refine Mk.app E.z _ _ rfl rfl rfl (be.z _ E.z.bel) (by have:=aF.z;have:=aE.z;simp only [Xd,Xv,Xai];omega) (fun v' W' N O=>u.z _ _ O ?_);clear u K;replace E:=Y4 N;clear N O;try simp only [Act.put,Xm,Xo,Xl])
        | ((with_reducible refine RT.step (o:=⟨some 84,_,_,_,_,_⟩) ?_ (fun K u => ?_));rfl;refine Mk.app E.z _ _ rfl rfl rfl (Mk.src E.z) (by have:=aF.z;have:=aE.z;simp only [Xd,Xv,Xai];omega) (fun v' W' N O=>u.z _ _ O ?_);clear u K;replace E:=Y4 N;clear N O;try simp only [Act.put,Xm,Xo,Xl])
        | ((with_reducible refine RT.step (o:=⟨some 88,_,_,_,_,_⟩) ?_ (fun K u => ?_));rfl;refine Mk.app E.z _ _ rfl rfl rfl (bq.z _ E.z.bel) (by have:=aF.z;have:=aE.z;simp only [Xd,Xv,Xai];omega) (fun v' W' N O=>u.z _ _ O ?_);clear u K;replace E:=Y4 N;clear N O;try simp only [Act.put,Xm,Xo,Xl]))
       all_goals
        have hr:=RAt.made r.z ay H.z.size (s:=s) (q:=((i:Int),zs)) (by rw [a6.z];exact E.z);rw [<- aW.z,<- aA.z] at hr;have aq:=Y4 hr;have au:=Y4 (ZB.weak (ZB.keep (RAt.low r.z an.z) ((Ziz E.z.bel).mono fun b A=>A.1) fun _ _ h=>h) fun b _ A=>Zx2 (k:=k) A.1 A.2 (fun g hg=>((E.z.a _ _ rfl).cells hg).1) (fun g hg=>((E.z.p _ _ rfl).cells hg).1));have av:=Y4 (H.z.trans (E.z.bel.mono H.z.size));have ao:Y5 (ZiR (65536*i+(j+1)) (Zz R (ZjS (i:Int) (T.take (j+1))))):=Y4 (by rw [aA.z];exact af.z.add s _);clear hr E r an ar H HL be bq a6 aF aE;refine RT.done ?_;go_wp2_with fail;have aa:=bi.z;go_roundw
        case rel=>exact ⟨j+1,_,by omega,by go_num,aq,ao,au,av⟩
        case measure=>simp [intOf];omega
    ·obtain rfl:j=T.length:=by omega
     have s1:decide ((T.length:Int)<(T.length:Int))=false:=by simp
     have hr:=Y.z;have hf:=af.z;rw [XB,<- bL.z] at hr hf;have aU:=Y4 hr;have bN:Y5 (ZiR (65536*(i+1)) (Zd5 (evs l) (i+1))):=Y4 (hf.mono (by omega));clear aa hr hf aH;go_wp2_with fail;have ah:=bG.z;go_roundw
     case rel=>exact ⟨i+1,D,by omega,by go_num,aU,bN,aX⟩
     case measure=>simp [intOf];omega
  ·obtain rfl:i=l.length:=by omega
   have t1:decide ((l.length:Int)<(l.length:Int))=false:=by simp
   have hr:=HR.z;rw [bj.z] at hr;have aU:=Y4 hr;clear ah hr;go_wp2_with fail;go_ret;exact ⟨_,_,rfl,aU.z,HB.z⟩
