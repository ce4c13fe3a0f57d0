import Derived.Test.YtdijhifdjbnkfaaGreatZT32
import Derived.Test.YtdijhifdjbnkfaaGreatZT51
import Derived.Test.YtdijhifdjbnkfaaGreatZT43
import Derived.Test.YtdijhifdjbnkfaaGreatZT42
set_option maxRecDepth 100000
set_option maxHeartbeats 0
set_option linter.unusedVariables false
set_option linter.unusedSimpArgs false
namespace Go.Proofs.YtdijhifdjbnkfaaGreat
open Lib (hid)
open Tryz
namespace SG
open RowKit MM
open EV (ZA Z8 Zad Zna Zcb ZmX)
open EM (Z5 Trm ZC Zaj Zer Zj)
open RM (Zhz ZoO Zrm ZjP ZnM ZiM ZoK ZpD)
open SM (Zo)
open GM (Zt evs)
def Zt2 (rows:List Znf) (w:World) (e:Ending) (w':World):Prop:=∃v a,e=.returned v/\RAt w.heap.size w' v a rows/\Below w.heap.size w w'
theorem RAt.new {B:Nat} {w:World} {v:Value} {a:List Value} {rows:List Znf} (h:RAt B w v a rows) {b:Nat} (hb:w.heap.size<=b):ZdR v a b :=
 ⟨fun e=>by have:=(RowsAt.olt h e).2;omega,fun u c e=>by obtain ⟨i,hi,rfl⟩:=Xbn c;have:=(RowsAt.ilt h hi e).2;omega⟩
theorem ZvG (v:Value) (l:List Zo) (w:World) (hv:ZN ZA w v l) (hn:l.length<=65536):Calls prog 17 #[v] w (Zt2 (Zt l) w):=by
 have a6:prog.follows .mixedOrders=true:=by kernel_rfl
 obtain ⟨p,bP,rfl,bQ,bC,_⟩:=hv.shape;unfold maxLen at bC;have HV:=hid hv;have aR:(evs l).length=l.length:=XE _;have HN:=hid (fun (i:Nat) (hi:i<l.length)=>(show Zhz (evs l) (i+1)=ZC (Zhz (evs l) i) (ZjP (i:Int) (Z5 l[i].2)) by rw [ZoO (by rw [aR];exact hi)];simp [evs]));have a4:Hid (Zhz (evs l) l.length=Zt l):=hid (by rw [<- aR];exact Zrm _);have be:Hid (RAt w.heap.size w (.slice none 0 0) [] (Zhz (evs l) 0)):=hid (RowsAt.nil_ _);have bm:Hid (ZiM (65536*0) (Zhz (evs l) 0)):=hid ⟨Xc _,fun _ h=>(by cases h)⟩;clear hv aR;go_enter func17,ntmps17;go_wp2_with fail
 go_loopw [3,4] (fun lv iv wr=>∃(i:Nat) (A:List Value),i<=l.length/\iv=.int .i64 i/\Hid (RAt w.heap.size wr lv A (Zhz (evs l) i))/\Hid (ZiM (65536*i) (Zhz (evs l) i))/\Hid (Below w.heap.size w wr)) (fun _ iv _=>l.length - (intOf iv).toNat)
 case atStart=>exact ⟨0,[],by omega,rfl,be,bm,hid (Below.refl _ _)⟩
 case round =>
  obtain ⟨i,bJ,hi,rfl,HR,HF,HB⟩:=hrel;clear be bm
  by_cases af:i<l.length
  ·obtain ⟨wo,bx⟩:∃wo,wo=wr:=⟨_,rfl⟩;subst bx;have t1:decide ((i:Int)<(l.length:Int))=true:=Xt;have t2:(i:Int)<(l.length:Int):=by omega
   obtain ⟨b,off,vf,rfl,bO,_,bG,c2,bz,hf⟩:=Zad (HV.out.below HB.out) af;have ae:=HN.out i af;obtain ⟨⟨sq,z,fs⟩,hd⟩:∃d,l[i]=d:=⟨_,rfl⟩;rw [hd] at c2 hf ae;change wo.cell? ⟨b,off+i*3+1,none⟩=some (.int .i64 z) at c2;change ZD Z8 _ wo vf fs at hf;have HT:=hid (ZmX z vf fs wo hf.any);obtain ⟨pf,cf,rfl,_⟩:=hf.shape;have bM:=ZoK (z,fs);obtain ⟨T,hT⟩:=Xn (Z5 (z,fs));change Zhz (evs l) (i+1)=ZC (Zhz (evs l) i) (ZjP (i:Int) (Z5 (z,fs))) at ae;obtain ⟨R,hR⟩:=Xn (Zhz (evs l) i);rw [hT] at HT ae bM;rw [hR] at HR HF ae;have bI:=hid ae;have bs:=hid af;obtain ⟨pl,cl,F,_⟩:=RowsAt.shape HR.out;subst F;clear hf ae hT hd af hR bG;go_wp2_with fail;refine HT.out.mono ?_;rintro e w5 ⟨tv,rfl,aY,a2⟩;have bg:=hid (Zf4 HB.out a2);have bi:=hid (RowsAt.below HR.out a2);have ba:=hid (ZD.weak aY fun b _ D=>RAt.new HR.out D);obtain ⟨pt,ct,rfl,bR,bw,_⟩:=aY.shape;unfold maxLen at bw;have a9:Hid (ZiM (65536*i+0) R):=HF;clear aY a2 HT c2 bz HR HF HB;go_wp2_with fail
   go_loopw [3,6] (fun lv jv wk=>∃(j:Nat) (A:List Value),j<=T.length/\jv=.int .i64 j/\Hid (RAt w.heap.size wk lv A (ZC R (ZjP (i:Int) (T.take j))))/\Hid (ZiM (65536*i+j) (ZC R (ZjP (i:Int) (T.take j))))/\Hid (ZD Zcb (fun b=>ZdR lv A b) wk (.slice pt T.length ct) T)/\Hid (Below w.heap.size w wk)) (fun _ jv _=>T.length - (intOf jv).toNat)
   case atStart=>exact ⟨0,bJ,by omega,by go_simp,bi,a9,ba,bg⟩
   case round =>
    obtain ⟨j,A,hj,rfl,Y,ah,ay,a0⟩:=hrel;clear bi a9 ba bg;obtain ⟨wk,bN⟩:∃wk,wk=wr:=⟨_,rfl⟩;subst bN
    by_cases U:j<T.length
    ·have s1:decide ((j:Int)<(T.length:Int))=true:=Xt;have s2:(j:Int)<(T.length:Int):=by omega
     obtain ⟨bt,ot,vt,rfl,aF,bV,d1,d2,N⟩:=Zna ay.out U;have am:=ZnM U (i:Int) R;obtain ⟨⟨s,zs⟩,hx⟩:∃t,T[j]=t:=⟨_,rfl⟩;rw [hx] at d1 N am;dsimp only at d1 N am;obtain ⟨M,hM⟩:=Xn (ZC R (ZjP (i:Int) (T.take j)));rw [hM] at Y ah am;obtain ⟨pz,cz,rfl,_⟩:=N.shape;have bo:=hid (Ze0 _ M s wk (RAt.row Y.out));obtain ⟨pm,cm,F,bT,bA,_⟩:=RowsAt.shape Y.out;subst F;unfold maxLen at bA;have aw:=hid am;have bp:=hid U;have HZ:=hid N;have bU:=ah.out.1;clear hx hM N am U;go_wp2_with fail;refine bo.out.mono ?_;rintro e w7 ⟨⟨k,rfl,aT⟩,ak⟩;have au:=hid aT;have az:=aT.1;obtain ⟨w8,ax⟩:=Xn (w7.alloc (.cells #[.int .i64 (i:Int),.slice pz zs.length cz] 125));have Z:Below wk.heap.size wk w8:=by rw [<- ax];exact ak.alloc ak.size _
     obtain ⟨q8,aW⟩:=Xn w7.heap.size;have g8:w8.heap[q8]? = some (.cells #[.int .i64 (i:Int),.slice pz zs.length cz] 125 (0,0)):=by rw [<- ax,<- aW];exact heap_alloc_new _ _
     have bL:=hid (fun (n:Nat) (hn:n<A.length) (g:Nat) (hg:A[n].ownBlock=some g)=>(RowsAt.ilt Y.out hn hg).2);have bu:Hid (wk.heap.size<=q8):=hid (by rw [<- aW];exact ak.size);have C:=hid (RowsAt.below Y.out Z);have aE:=hid (ZD.keep ay.out (Za _ Z) fun _ _ h=>h);have aG:=hid (ZD.keep HZ.out (Za _ Z) fun _ _ h=>h);have aC:=hid (Zf4 a0.out Z);have e1:=(Z.cell (p:=⟨bt,ot+j*2,none⟩) aF).trans d1;have e2:=(ak.cell (p:=⟨bt,ot+j*2+1,none⟩) aF).trans d2;have ag:=hid g8;have br:=hid e1;have aZ:=hid ax;have HQ:=hid aW;have bE:Hid (bt<w8.heap.size):=hid (XK aF Z.size);clear aT ak Z ax g8 d1 bo Y ay HZ a0 aF
     by_cases L:∃hk:k<M.length,(M[k]).1=s
     ·obtain ⟨m,hs⟩:=L;have f:k<A.length:=by rw [C.out.len];exact m
      obtain ⟨g,cg,F,bl,bk,x1,x2,_⟩:=RowsAt.at_ C.out f m;simp only [Value.slice.injEq,true_and] at F;obtain ⟨rfl,rfl⟩:=F;have aM:A[k].ownBlock≠some q8:=fun e=>by have:=bL.out k f q8 e;have:=bu.out;omega
      have aL:A[k].ownBlock≠some g:=fun e=>RowsAt.out C.out (by decide) f e rfl;have ac:=ZpD ((i:Int),zs) m au.out.2.1 hs;have ai:=ah.out.2 _ (XH m);have aa:=hid (RAt.owns C.out f m);obtain ⟨⟨x,ps⟩,hx⟩:∃t,M[k]=t:=⟨_,rfl⟩;have HX:=hid (show ∀h:k<M.length,M[k]=(x,ps) from fun _=>hx);rw [hx] at x1 hs ac ai aa;obtain ⟨uk,u⟩:=Xn (A[k]);have bh:=hid (show ∀h:k<A.length,A[k]=uk from fun _=>u);rw [u] at x2 aM aL aa;dsimp only at x1 hs ac ai aa;have bH:=hid x2;have bK:=hid aL;have bf:=hid aM;have aK:=hid ac;have bv:=hid ai;have aO:=hid f;have aU:=hid m;have bn:=hid bl;have q1:decide ((k:Int)<(M.length:Int))=true:=Xt;have q2:(k:Int)<(M.length:Int):=by omega
      have q3:decide (k<M.length)=true:=Xw m;have r3:(x == s)=true:=by rw [Xan];exact hs
      have aB:=Zb5 x s;have r1:decide (x=s)=true:=Xw hs;rw [r1] at aB;clear hs ac ai aM aL hx u x2 f m bk;go_wp2_with (first|(rw [aZ.out])|(rw [HQ.out]))
      go_quiet (fail)
      go_wp2_with fail;obtain ⟨O,X⟩:=Xn ((w8.drewN nq).drew);have c:Below w8.heap.size w8 O:=by rw [<- X];exact (MM.below_drewN (Below.refl _ _) nq).drew
      have r:=hid (RowsAt.below C.out c);have f:=aO.out;have m:=aU.out;have a5:=hid (aa.out.keep (Za (fun _=>True) c) (fun _ _ _=>trivial) fun _ _=>trivial);have ar:=hid (ZD.keep aG.out (Za _ c) fun _ _ h=>h);have an:=hid (ZD.keep aE.out (Za _ c) fun _ _ h=>h);have J:=hid (Zf4 aC.out c);have G:q8<w8.heap.size:=(Xo.1 ag.out).1
      have HL:=hid (fun W (hW:Kep (fun b=>uk.ownBlock≠some b) O W)=>(show W.cell? ⟨g,k*2+1,none⟩=some uk/\W.cell? ⟨q8,0,none⟩=some (.int .i64 (i:Int))/\W.cell? ⟨q8,1,none⟩=some (.slice pz zs.length cz) from
       ⟨(hW.cell (XK bn.out c.size) bK.out _).trans ((c.cell (p:=⟨g,k*2+1,none⟩) bn.out).trans bH.out),(hW.cell (XK G c.size) bf.out _).trans ((c.cell (p:=⟨q8,0,none⟩) G).trans (Zh ag.out 0)),(hW.cell (XK G c.size) bf.out _).trans ((c.cell (p:=⟨q8,1,none⟩) G).trans (Zh ag.out 1))⟩))
      have aQ:=hid X;clear X c G f m C aE aG aC x1 e1 e2 d2 r3 r1 aB q1;refine RS.ZaF (T:=fun b=>uk.ownBlock≠some b) [(0,true),(1,true),(2,true),(3,true),(4,true),(5,true),(6,true),(7,true),(8,false),(9,false),(10,true),(11,true)] a6 (by kernel_rfl) (fun _ _ d _ _ h=>by cases d<;>exact h) ?_;simp only [RS.Zy,XF,XV,XZ,X4,XX];rw [aQ.out];repeat (refine RS.take (by rfl) (by intro W hW;obtain ⟨f1,f2,f3⟩:=HL.out W hW;go_simp;with_reducible rfl) ?_;simp only [Act.put,Xr,Xs,Xq])
      refine RS.alone (by rfl) (fun K y => ?_);go_simp;refine y.out _ _ (Zr _ _ _) ?_;clear y K;refine RS.alone (by rfl) (fun K y => ?_);have ai:=bv.out;refine Zd8 ZyD (S:=fun b=>ZdR (.slice (some ⟨g,0,none⟩) M.length cm) A b) _ _ rfl uk ps O [.int .i64 (i:Int),.slice pz zs.length cz] ((i:Int),zs) rfl rfl a5.out (Zlj.2 ⟨_,rfl,ar.out⟩) rfl (by unfold maxLen;omega) (by omega) ?_;intro v' w3 aX V a1 aJ;refine y.out _ _ aJ ?_;clear y K ai;obtain ⟨pv,cv,bq,_⟩:=(Zbf.any aX).shape;obtain ⟨NL,bB⟩:=Xn ((ps++[((i:Int),zs)]).length);rw [bB] at bq;subst bq;repeat (refine RS.take (by rfl) (by intro W hW;go_simp;with_reducible rfl) ?_;simp only [Act.put,Xr,Xs,Xq])
      refine RS.done ?_;simp only [Xh,Xm,XaW,Xap,XL,Nat.reduceAdd];have f:=aO.out;have av:=aU.out;have u:=bh.out f;have a7:=HX.out av;have y2:=(HL.out w3 V).1;have aI:=(r.out.outer).keep V (fun _ _ h=>h.elim) fun g' bD e=>RowsAt.out r.out (by decide) f (by rw [u];exact e) bD;have y3:=ZA4 aI (k*2+1);have bW:O.heap.size<=w3.heap.size:=V.size;have aH:w.heap.size<=O.heap.size:=J.out.size;have hR:=RAt.hits r.out aH f av (u':=.slice pv NL cv) (es:=ps++[((i:Int),zs)]) aX (by rw [u];exact V) (by rw [u];exact a1) rfl;rw [a7,<- aK.out,<- aw.out] at hR;have aS:Kep (fun b=>b≠g) w3 (w3.setCell ⟨g,k*2+1,none⟩ (.slice pv NL cv)):=Zx (fun h=>h rfl) _;have aj:=hid hR
      have ap:Hid (ZD Zcb (fun b=>ZdR (.slice (some ⟨g,0,none⟩) M.length cm) (A.set k (.slice pv NL cv)) b) (w3.setCell ⟨g,k*2+1,none⟩ (.slice pv NL cv)) (.slice (some ⟨bt,ot,none⟩) T.length ct) T):=hid (by
       have h1:ZD Zcb (fun b=>b<O.heap.size/\ZdR (.slice (some ⟨g,0,none⟩) M.length cm) A b) O (.slice (some ⟨bt,ot,none⟩) T.length ct) T:=ZD.weak an.out fun b D h=>⟨D,h⟩;have h2:=ZD.keep h1 ((V.mono fun b (D:b<O.heap.size/\ZdR (.slice (some ⟨g,0,none⟩) M.length cm) A b)=>D.2.2 uk (by rw [<- u];exact XH f))) fun _ _ h=>h;have h3:=ZD.keep h2 (aS.mono fun b D e=>D.2.1 (by rw [e];rfl)) fun _ _ h=>h;exact ZD.weak h3 fun b _ D=>Zxz f D.1 D.2 (by rw [u];exact a1))
      have ao:Hid (Below w.heap.size w (w3.setCell ⟨g,k*2+1,none⟩ (.slice pv NL cv))):=hid ((J.out.trans (V.below (B:=w.heap.size) aH fun b D e=>by have:=(RowsAt.ilt r.out f (by rw [u];exact e)).1;omega)).trans (aS.below (B:=w.heap.size) (by omega) fun b D=>by have:=(RowsAt.olt r.out (g:=g) rfl).1;omega));have al:Hid (ZiM (65536*i+(j+1)) (ZC R (ZjP (i:Int) (T.take (j+1))))):=hid (by rw [aw.out];exact ah.out.add s _);clear hR aI u a7 aX V a1 aJ aS f av aK HX bh aO aU r an ar J a5 HL;go_wp2_with fail;have U:=bp.out;go_roundw
      case rel=>exact ⟨j+1,A.set k (.slice pv NL cv),by omega,by go_num,aj,al,ap,ao⟩
      case measure=>simp [intOf];omega
     ·have aq:Zaj M s ((i:Int),zs)=M.take k++(s,[((i:Int),zs)])::M.drop k:=Zer _ az au.out.2.1 fun hk=>⟨au.out.2.2 hk,fun e=>L ⟨hk,e⟩⟩;have aP:=hid aq;clear aq
      by_cases ad:k<M.length
      case' pos =>
       have f:k<A.length:=by rw [C.out.len];exact ad
       obtain ⟨g,cg,F,bl,bk,x1,x2,_⟩:=RowsAt.at_ C.out f ad;simp only [Value.slice.injEq,true_and] at F;obtain ⟨rfl,rfl⟩:=F;obtain ⟨⟨x,ps⟩,hx⟩:∃t,M[k]=t:=⟨_,rfl⟩;have hs:x≠s:=fun e=>L ⟨ad,by rw [hx];exact e⟩;rw [hx] at x1;dsimp only at x1;have q1:decide ((k:Int)<(M.length:Int))=true:=Xt;have q2:(k:Int)<(M.length:Int):=by omega
       have q3:decide (k<M.length)=true:=Xw ad;have r3:(x == s)=false:=by rw [Xab];exact hs
       have aB:=Zb5 x s;have r1:decide (x=s)=false:=XB hs;rw [r1] at aB;clear hs L hx x2 ad f;go_wp2_with (first|(rw [aZ.out])|(rw [HQ.out]))
       go_quiet (fail)
       go_wp2_with fail;generalize (some (⟨g,0,none⟩:Addr))=pm at *
      case' neg =>
       have q1:decide ((k:Int)<(M.length:Int))=false:=Xf;have q3:decide (k<M.length)=false:=XB ad;clear L;go_wp2_with (first|(rw [aZ.out])|(rw [HQ.out]))
       go_quiet (fail)
       go_wp2_with fail
      all_goals
       obtain ⟨O,X⟩:=Xn ((w8.drewN nq).drew);have c:Below w8.heap.size w8 O:=by rw [<- X];exact (MM.below_drewN (Below.refl _ _) nq).drew
       have r:=hid (RowsAt.below C.out c);have an:=hid (ZD.keep aE.out (Za _ c) fun _ _ h=>h);have J:=hid (Zf4 aC.out c);have ar:=hid (RAt.low r.out (ZD.keep aG.out (Za _ c) fun _ _ h=>h));have G:q8<w8.heap.size:=(Xo.1 ag.out).1
       have HL:=hid (fun W (hW:Kep (fun b=>b<O.heap.size) O W)=>(show W.cell? ⟨bt,ot+j*2,none⟩=some (.string ⟨s.toArray⟩)/\W.cell? ⟨q8,0,none⟩=some (.int .i64 (i:Int))/\W.cell? ⟨q8,1,none⟩=some (.slice pz zs.length cz) from
        have hh:∀{b:Nat} (i:Nat),b<w8.heap.size->W.cell? ⟨b,i,none⟩=w8.cell? ⟨b,i,none⟩:=fun {b} i D=>(hW.cell (XK D c.size) (XK D c.size) i).trans (c.cell (p:=⟨b,i,none⟩) D)
        ⟨(hh _ bE.out).trans br.out,(hh _ G).trans (Zh ag.out 0),(hh _ G).trans (Zh ag.out 1)⟩))
       obtain ⟨ZP,aV⟩:=Xn (List.zip (M.map (·.1)) A);have ab:=RAt.old r.out;have a3:=RowsAt.zlen r.out;rw [aV] at ab a3;have bc:(ZP.take k).length<=8589934592:=by rw [Xi];omega
       have bb:(ZP.drop k).length<=8589934592:=by rw [Xj];omega
       have a8:=hid (fun W (hW:Below O.heap.size O W)=>ZtQ ((ZgP.below ab hW).take k az));have bj:=hid (fun W (hW:Below O.heap.size O W)=>ZtQ ((ZgP.below ab hW).drop k az));have E:=hid (RAt.start r.out);have bd:=hid aV;have aQ:=hid X;have aD:=hid bc;have aA:=hid bb;have bS:(k:Int)<=(cm:Int):=by omega
       have m:(k:Int)<=(M.length:Int):=by omega
       clear X c G aV ab a3 bc bb C aE aG aC e1 e2 d2;refine RT.ZaF (T:=fun b=>b<O.heap.size) (.take 1<|.take 2<|.take 3<|.take 5<|.take 6<|.take 7<|.take 8<|.take 9<|.take 10<|.take 15<|.take 16<|.take 17<|.both 0 11 (.both 4 11 (.alone 11<|.take 12<|.alone 13<|.alone 14<|.alone 18<|.take 19<|.done) (.take 12<|.both 4 13 (.alone 13<|.alone 14<|.alone 18<|.take 19<|.done) (.alone 4<|.alone 14<|.alone 18<|.take 19<|.done))) (.take 12<|.both 0 13 (.both 4 13 (.alone 13<|.alone 14<|.alone 18<|.take 19<|.done) (.alone 4<|.alone 14<|.alone 18<|.take 19<|.done)) (.alone 0<|.alone 4<|.alone 14<|.alone 18<|.take 19<|.done))) a6 (by kernel_rfl) rfl (by kernel_rfl) (fun _ _ d _ _ h=>by cases d<;>exact h) ?_;simp only [RT.Zy,XZ,X4,XX];rw [aQ.out];repeat (refine RT.take (by rfl) (by intro W hW;obtain ⟨f1,f2,f3⟩:=HL.out W hW;go_simp;with_reducible rfl) ?_;simp only [Act.put,Xr,Xs,Xq])
       repeat' (first
        | (with_reducible refine RT.both ?_ ?_)
        | (with_reducible refine RT.alone ?_)
        | ((with_reducible apply RT.take);rfl;(intro W hW;go_simp;with_reducible rfl);simp only [Act.put,Xr,Xs,Xq])
        | ((with_reducible refine RT.step (o:=⟨some 70,_,_,_,_,_⟩) ?_ (fun K y => ?_));rfl;go_simp;refine Mk.doE E.out y (fun W1 I => ?_);clear y K;replace E:=hid I;clear I;try simp only [Act.put,Xr,Xs,Xq])
        | ((with_reducible refine RT.step (o:=⟨some 81,_,_,_,_,_⟩) ?_ (fun K y => ?_));rfl;go_simp;refine Mk.doP E.out ar.out y (fun W1 I => ?_);clear y K;replace E:=hid I;clear I;try simp only [Act.put,Xr,Xs,Xq])
        | ((with_reducible refine RT.step (o:=⟨some 83,_,_,_,_,_⟩) ?_ (fun K y => ?_));rfl;go_simp;refine Mk.doR E.out y (fun W1 I => ?_);clear y K;replace E:=hid I;clear I;try simp only [Act.put,Xr,Xs,Xq])
        | ((with_reducible refine RT.step (o:=⟨some 74,_,_,_,_,_⟩) ?_ (fun K y => ?_));rfl;refine Mk.app E.out _ _ rfl rfl rfl (a8.out _ E.out.bel) (by have:=aD.out;have:=aA.out;simp only [Xd,Xm,Xaf];omega) (fun v' W' I H=>y.out _ _ H ?_);clear y K;replace E:=hid I;clear I H;try simp only [Act.put,Xr,Xs,Xq])
        | ((with_reducible refine RT.step (o:=⟨some 84,_,_,_,_,_⟩) ?_ (fun K y => ?_));rfl;refine Mk.app E.out _ _ rfl rfl rfl (Mk.src E.out) (by have:=aD.out;have:=aA.out;simp only [Xd,Xm,Xaf];omega) (fun v' W' I H=>y.out _ _ H ?_);clear y K;replace E:=hid I;clear I H;try simp only [Act.put,Xr,Xs,Xq])
        | ((with_reducible refine RT.step (o:=⟨some 88,_,_,_,_,_⟩) ?_ (fun K y => ?_));rfl;refine Mk.app E.out _ _ rfl rfl rfl (bj.out _ E.out.bel) (by have:=aD.out;have:=aA.out;simp only [Xd,Xm,Xaf];omega) (fun v' W' I H=>y.out _ _ H ?_);clear y K;replace E:=hid I;clear I H;try simp only [Act.put,Xr,Xs,Xq]))
       all_goals
        have hr:=RAt.made r.out az J.out.size (s:=s) (q:=((i:Int),zs)) (by rw [bd.out];exact E.out);rw [<- aP.out,<- aw.out] at hr;have aj:=hid hr;have ap:=hid (ZD.weak (ZD.keep (RAt.low r.out an.out) ((Ziu E.out.bel).mono fun b D=>D.1) fun _ _ h=>h) fun b _ D=>Zxy (k:=k) D.1 D.2 (fun g hg=>((E.out.a _ _ rfl).cells hg).1) (fun g hg=>((E.out.p _ _ rfl).cells hg).1));have ao:=hid (J.out.trans (E.out.bel.mono J.out.size));have al:Hid (ZiM (65536*i+(j+1)) (ZC R (ZjP (i:Int) (T.take (j+1))))):=hid (by rw [aw.out];exact ah.out.add s _);clear hr E r an ar J HL a8 bj bd aD aA;refine RT.done ?_;go_wp2_with fail;have U:=bp.out;go_roundw
        case rel=>exact ⟨j+1,_,by omega,by go_num,aj,al,ap,ao⟩
        case measure=>simp [intOf];omega
    ·obtain rfl:j=T.length:=by omega
     have s1:decide ((T.length:Int)<(T.length:Int))=false:=by simp
     have hr:=Y.out;have hf:=ah.out;rw [XC,<- bI.out] at hr hf;have aN:=hid hr;have bF:Hid (ZiM (65536*(i+1)) (Zhz (evs l) (i+1))):=hid (hf.mono (by omega));clear U hr hf ay;go_wp2_with fail;have af:=bs.out;go_roundw
     case rel=>exact ⟨i+1,A,by omega,by go_num,aN,bF,a0⟩
     case measure=>simp [intOf];omega
  ·obtain rfl:i=l.length:=by omega
   have t1:decide ((l.length:Int)<(l.length:Int))=false:=by simp
   have hr:=HR.out;rw [a4.out] at hr;have aN:=hid hr;clear af hr;go_wp2_with fail;go_ret;exact ⟨_,_,rfl,aN.out,HB.out⟩
