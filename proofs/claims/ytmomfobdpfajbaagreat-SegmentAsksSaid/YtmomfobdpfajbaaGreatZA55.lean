import Derived.Test.YtmomfobdpfajbaaGreatZA48
import Derived.Test.YtmomfobdpfajbaaGreatZA50
import Derived.Test.YtmomfobdpfajbaaGreatZA51
import Derived.Test.YtmomfobdpfajbaaGreatZA53
import Derived.Test.YtmomfobdpfajbaaGreatZA54
set_option maxRecDepth 100000
set_option maxHeartbeats 0
set_option linter.unusedVariables false
set_option linter.unusedSimpArgs false
namespace Go.Proofs.YtmomfobdpfajbaaGreat
open Tryz
namespace SG
open RowKit MM GB
open EV (ZD)
open SM (Zq isS ZaS)
open GM (ZbV sized Zax ZaE ZeJ Zdz Zp Zl ZS Zfd Zfe Zf8 Zb1 Z3 Z8 Zdo Zj)
open FM (Zx)
open DT (Zbr Zf7 Zsv)
open PM (isL)
theorem ZBK (a:Value) (w:World):(Instr.field 44 (.agg #[a]) 0).run prog w=.ok a w:=by kernel_rfl
theorem Zzm (v:Value) (l:List Zq) (w:World) (f:ZF ZD w v l) (a:ZaS l) (h:isS l=false\/l=[]):Calls prog 11 #[v] w (ZwT ([],130) w):=by
 have d:=ST.Zd0 v l w f a;obtain ⟨p,n,rfl,m,k,_⟩:=f.shape;cases hS:isS l with
 | true =>
   obtain rfl:=h.resolve_left (by rw [hS];simp);rw [hS,Xe rfl,Xe rfl] at d;have i:=Y4 d;clear d f h a hS;go_enter func11,ntmps11;go_wp2_with fail;refine i.z.mono ?_;rintro e j ⟨u1,rfl,c,b⟩;have g:=Y4 b;obtain ⟨o,c1,rfl,_⟩:=(Zd.brow c).shape;clear c b;go_wp2_with fail;go_ret2;exact ⟨_,rfl,World.ownsRow_nil _ _ _ _,g.z⟩
 | false =>
   rw [hS,Xc (by simp),Xc (by simp)] at d;have i:=Y4 d;clear d f h a hS;go_enter func11,ntmps11;go_wp2_with fail;refine i.z.mono ?_;rintro e j ⟨u1,rfl,c,b⟩;have g:=Y4 b;obtain ⟨o,c1,rfl,_⟩:=(Zd.brow c).shape;clear c b;go_wp2_with fail;go_ret2;exact ⟨_,rfl,World.ownsRow_nil _ _ _ _,g.z⟩
theorem Zv5 (v:Value) (l:List Zq) (w:World) (hv:ZF ZD w v l) (hS:isS l=true) (bg:ZbV l) (ag:ZaS l) (h0:l≠[]):Calls prog 11 #[v] w (ZwT (ZaE l,0) w):=by
 have cY:prog.follows .mixedOrders=true:=by kernel_rfl
 have bY:=Y4 (Zt2 hS ag h0);have hz:=sized hS bg;have bA:=ST.Zd0 v l w hv ag;rw [hS,Xe rfl,Xe rfl] at bA;have b4:=Y4 bA;have b5:=Y4 (fun W (hW:Below w.heap.size w W)=>ZoH v l W (hv.below hW) hz.docs.1);have bX:=Y4 (fun W (hW:Below w.heap.size w W)=>Zti v l W (hv.below hW) (by have:=hz.docs.1;omega));have b0:=Y4 (fun W (hW:Below w.heap.size w W)=>ZoC v l W (hv.below hW));have B:=GM.Zin hS bg;have bd:ZaE l=[76,83,69,71]++Zx (Zax l):=rfl;have bQ:0<(Zx (Zax l)).length:=Zmc _ _;have HJ:=Y4 (fun W u (h:CR.Za7 W u (Zax l))=>FP.Zzq u (Zax l) W h (fun p hp=>by have:=hz.sects p hp;omega) (by rw [bd,Xd] at B;omega));obtain ⟨p,dd,rfl,c5,db,_⟩:=hv.shape;have hn:=Xaa.2 h0;have q1:((l.length:Int) == 0)=false:=Xb;rw [bd] at B ⊢;rw [Xd] at B;obtain ⟨FL,a0⟩:=Xn (Zx (Zax l));rw [a0] at B bQ ⊢;simp only [Xh,Xv] at B;have cW:=Y4 a0;have HZ:=Y4 hz;clear hv hS bg ag h0 hz bd a0 bA;go_enter func11,ntmps11;go_wp2_with fail;refine b4.z.mono ?_;rintro e w1 ⟨u1,rfl,bc,cb⟩;have bF:=Y4 (Zd.brow bc);have bl:=Y4 cb;obtain ⟨p1,c1,rfl,_⟩:=(Zd.brow bc).shape;clear bc cb b4;go_wp2_with fail;refine (b5.z _ bl.z).mono ?_;rintro e C ⟨rv,us,rfl,bf,a1⟩;have co:=Y4 (Zf0 bl.z a1);have bJ:=Y4 (Zv.below bF.z a1);have ba:Ze0 Zpz C.heap.size C rv (Zp l):=ZF.bel (RAt.row bf);have cO:=HZ.z.rows;have ac:=Y4 HZ.z.row;have br:=HZ.z.posts;obtain ⟨pr,cr,cR,bO,cj,_⟩:=RowsAt.shape bf;subst cR;obtain ⟨a,bt⟩:=Xn (Zp l);rw [bt] at ba cO ac br bO ⊢;unfold maxLen at cj;have cz:=Y4 ba;have be:=Y4 bt;have q2:decide ((a.length:Int)>262144)=false:=Xf;have q3:decide (262144<a.length)=false:=Xf;have b1:=Y4 (fun (k:Nat) (hk:k<a.length)=>Zfd hk);have ci:=Y4 (fun (k:Nat) (hk:k<a.length)=>Zf8 hk);have aq:=Y4 (fun k=>Xy (Zfe a k) br);have X:Y5 (a.take a.length=a):=Y4 (by rw [XB]);have cl:Y5 (Gr C.heap.size C (.slice none 0 0) (.slice none 0 0) (.slice none 0 0) (Zl (a.take 0)) (ZS 0 (a.take 0)) ((a.take 0).map (·.1))):=Y4 ⟨World.ownsRow_nil _ _ _ _,ZC.nil_ _ _ _ _,ZC.nil_ _ _ _ _⟩;clear bf a1 ba bt b5 bF bl br;go_wp2_with fail
 go_loopw [7,8,9,10] (fun uv xv tv iv wr=>∃k:Nat,k<=a.length/\iv=.int .i64 k/\Y5 (Gr C.heap.size wr uv xv tv (Zl (a.take k)) (ZS 0 (a.take k)) ((a.take k).map (·.1)))/\Y5 (Below C.heap.size C wr)) (fun _ _ _ iv _=>a.length - (intOf iv).toNat)
 case atStart=>exact ⟨0,by omega,by go_simp,cl,Y4 (Below.refl _ _)⟩
 case round =>
  obtain ⟨k,hk,rfl,HG,HB⟩:=hrel;clear cl
  by_cases j:k<a.length
  ·have t1:decide ((k:Int)<(a.length:Int))=true:=Xt;have t2:decide (k<a.length)=true:=Xs j;have t3:(k:Int)<(a.length:Int):=by omega
   obtain ⟨b,off,vv,rfl,c7,cN,au,cv,aj⟩:=Zm1 (Ze0.below cz.z HB.z) j;obtain ⟨h1,h2,h3,h4,h5⟩:=ac.z _ (XI j);have G:=b1.z k j;have D:=ci.z k j;have am:=ZBl j;have af:=aq.z (k+1);have cn:=aq.z k;have q:=Zb1 (a.take k) 0;rw [Xi,Xan (by omega)] at q;obtain ⟨⟨s,ps⟩,hr⟩:∃r,a[k]=r:=⟨_,rfl⟩;rw [hr] at au aj h1 h2 h3 h4 h5 G D am;dsimp only at au aj h1 h2 h3 h4 h5 G D am;obtain ⟨pf,cf,rfl,_⟩:=aj.shape;have HC:=Y4 (PW.Zd0 _ ps wr (Zpx aj.any) (by omega) (by omega));have he:PW.encR ps=(PM.ZY ps,0):=by unfold PW.encR;rw [Xe h4]
   rw [he] at HC
   have a9:PM.ZY ps≠[]:=fun e=>by
    have h:=(VM.Zc ps.length).1;have h':=Xr List.length e;unfold PM.ZY at h';simp only [Xd,Xv] at h';omega
   obtain ⟨E,hE⟩:=Xn (PM.ZY ps);rw [hE] at HC G D a9;rw [G,Xd] at af;obtain ⟨L0,a5⟩:=Xn (Zl (a.take k));obtain ⟨E0,a4⟩:=Xn (ZS 0 (a.take k));obtain ⟨S0,ar⟩:=Xn ((a.take k).map (·.1));have bq:S0.length=k:=by rw [<- ar,XF,Xi];omega
   have m:=HG.z;rw [a5,a4,ar] at m;rw [a5] at G D af cn;rw [a4] at D q;rw [ar] at am;obtain ⟨pu,cu,rfl,_⟩:=(Zd.brow m.u).shape;obtain ⟨px,cx,ae,_⟩:=m.x.any.shape;rw [q] at ae;subst ae;obtain ⟨pt,ct,ab,_⟩:=m.t.any.shape;rw [bq] at ab;subst ab;have cK:=Y4 m;have bV:=Y4 G;have bG:=Y4 D;have bZ:=Y4 am;have bx:=Y4 a9;have cg:=Y4 bq;have bR:=Y4 q;have ai:=Y4 (show wr.cell? ⟨b,off+k*2,none⟩=some (.string ⟨s.toArray⟩)/\wr.cell? ⟨b,off+k*2+1,none⟩=some (.slice pf ps.length cf)/\b<C.heap.size from ⟨au,cv,cN⟩);have bT:Y5 (C.heap.size<=wr.heap.size):=Y4 HB.z.size;have cS:=Y4 j;clear m G D am a9 hE a5 a4 ar he hr h2 h3 h4 h5 HG j aj bq q;go_wp2_with fail;refine HC.z.mono ?_;rintro e w3 ⟨v3,rfl,R,ck⟩;have R:Zd wr.heap.size w3 v3 E:=R;obtain ⟨p3,c3,rfl,_⟩:=(Zd.brow R).shape;obtain ⟨wd,a7⟩:=Xn w3.drew;have az:Below w3.heap.size w3 wd:=by rw [<- a7];exact (Below.refl _ _).drew
   have y:=Zf0 ck az;have ah:=Y4 (cK.z.below y);have cZ:=Y4 (Zd.brow (R.keep az));have bj:=Y4 (R.keep az);have bn:=Y4 (Zf0 HB.z y)
   have HL:=Y4 (fun W (hW:Kep (fun b=>b<C.heap.size) wd W)=>(show W.cell? ⟨b,off+k*2,none⟩=some (.string ⟨s.toArray⟩)/\W.cell? ⟨b,off+k*2+1,none⟩=some (.slice pf ps.length cf) from
    have hh:∀i,W.cell? ⟨b,i,none⟩=wr.cell? ⟨b,i,none⟩:=fun i=>(hW.cell (by have:=ai.z.2.2;have:=bT.z;have:=y.size;omega) ai.z.2.2 i).trans (y.cell (p:=⟨b,i,none⟩) (by have:=ai.z.2.2;have:=bT.z;show b<wr.heap.size;omega))
    ⟨(hh _).trans ai.z.1,(hh _).trans ai.z.2.1⟩))
   have cM:=Y4 a7;clear R ck az y a7 HC cK au cv HB;go_wp2_with fail;refine RT.Zal (T:=fun b=>b<C.heap.size) (.take 0<|.take 1<|.take 2<|.take 3<|.take 4<|.take 5<|.take 6<|.take 7<|.take 8<|.take 9<|.take 10<|.take 11<|.take 12<|.take 13<|.take 14<|.take 15<|.take 16<|.alone 17<|.alone 18<|.take 19<|.done) cY (by kernel_rfl) rfl (by kernel_rfl) (fun _ _ d _ _ h=>by cases d<;>exact h) ?_;simp only [RT.Zt,XU,XV,XS];rw [cM.z];repeat (refine RT.take (by rfl) (by intro W hW;obtain ⟨f1,f2⟩:=HL.z W hW;go_simp;with_reducible rfl) ?_;simp only [Act.put,Xm,Xo,Xl])
   refine RT.alone (RT.step (by rfl) (fun K hK => ?_));go_simp;refine hK.z _ _ (Zu _ _ _) ?_;clear hK K;try simp only [Act.put,Xm,Xo,Xl]
   refine RT.alone (RT.step (by rfl) (fun K hK => ?_));have aH:C.heap.size<=wd.heap.size:=bn.z.size;refine ZgB Zsv _ _ rfl C.heap.size (.slice px k cx) E0 wd [.string ⟨s.toArray⟩,.int .i64 (L0.length:Int),.int .i64 (E.length:Int),.int .i64 (ps.length:Int)] (s,((L0.length:Int),((E.length:Int),(ps.length:Int)))) rfl rfl ah.z.x (fun b _ h=>h.elim) (Zf7.2 rfl) rfl (by rw [bR.z];unfold maxLen;omega) (by rw [bR.z];omega) aH ?_;intro v4 w4 bk cq bb da;have bh:Kep (fun b=>b<C.heap.size) (wd.alloc (.cells [.string ⟨s.toArray⟩,.int .i64 (L0.length:Int),.int .i64 (E.length:Int),.int .i64 (ps.length:Int)].toArray 102)) w4:=bb.mono fun b hb e=>by have:=(ah.z.x.cells e).1;omega
   refine hK.z _ _ bh ?_;clear hK K;have a6:Kep (fun b=>(Value.slice px k cx).ownBlock≠some b) wd w4:=(Zu _ _ _).trans bb;rw [<- bG.z] at bk;have bL:=Y4 (ah.z.setX bk a6)
   have aD:=Y4 (by
    obtain ⟨r1,h1,_⟩:=id ah.z.x;exact Zd.kepOwn bj.z a6 fun g m=>Zhi bj.z h1 (by decide) m)
   have bH:=Y4 (bn.z.trans cq);have d1:=(HL.z w4 ((Zu _ _ _).trans bh)).1;clear bk cq bb bh a6 ah bj cZ bn HL aH;refine RT.take (by rfl) (by intro W hW;go_simp;with_reducible rfl) ?_;simp only [Act.put,Xm,Xo,Xl];refine RT.done ?_;have an:Below w4.heap.size w4 (w4.alloc (.cells #[.string ⟨s.toArray⟩] 9)):=(Below.refl _ _).alloc (Xa _) _;have a8:=Y4 (bL.z.below an);have aA:=Y4 (aD.z.keep an);have b3:=Y4 (Zf0 bH.z an);have M:=Y4 (ZBW NoB w4 s);have cL:Y5 (C.heap.size<=(w4.alloc (.cells #[.string ⟨s.toArray⟩] 9)).heap.size):=Y4 b3.z.size;clear an bL aD bH;go_wp2_with (first|(at_builtin;go_loud (refine Zo ZDl rfl _ _ rfl C.heap.size _ S0 rfl a8.z.t (fun b _ hb=>hb.elim) _ [s] rfl M.z (by rw [cg.z];unfold maxLen;simp only [Xai];omega) (by rw [cg.z];simp only [Xai];omega) cL.z ?_;intro v6 w6 bi A bw;rw [<- bZ.z] at bi;have bs:=Y4 (a8.z.setT bi bw);have cX:=Y4 (by obtain ⟨r1,h1,_⟩:=id a8.z.t;exact Zd.brow (Zd.kepOwn aA.z bw fun g m=>Zhi aA.z h1 (by decide) m));have U:=Y4 (b3.z.trans A);clear bi A bw))|(at_builtin;go_loud (refine Zn rfl _ _ rfl _ L0 rfl (Zd.zero bs.z.u) _ E rfl cX.z bx.z (by omega) ?_;intro v7 w7 cw bv;obtain ⟨a2,O⟩:=TR.Zb2 U.z.size bs.z.u bv cw;rw [<- bV.z] at a2;have cT:=Y4 (bs.z.setU a2 bv.kep);have cV:=Y4 (U.z.trans O);clear cw bv a2 O)))
   have j:=cS.z;go_roundw
   case rel=>exact ⟨k+1,by omega,by go_num,cT,cV⟩
   case measure=>simp [intOf];omega
  ·obtain rfl:k=a.length:=by omega
   have t1:decide ((a.length:Int)<(a.length:Int))=false:=by simp
   have m:=HG.z;rw [X.z] at m;have af:=aq.z a.length;rw [X.z] at af;have q:=Zb1 a 0;obtain ⟨PG,av⟩:=Xn (Zl a);obtain ⟨EG,al⟩:=Xn (ZS 0 a);have aw:(a.map (·.1)).length=a.length:=XF _;obtain ⟨MG,ax⟩:=Xn (a.map (·.1));rw [av,al,ax] at m;rw [av] at af;rw [al] at q;rw [ax] at aw;obtain ⟨pu,cu,rfl,_⟩:=(Zd.brow m.u).shape;obtain ⟨px,cx,ae,_⟩:=m.x.any.shape;obtain ⟨pt,ct,ab,_⟩:=m.t.any.shape;rw [q] at ae;rw [aw] at ab;subst ae;subst ab;have q4:decide ((PG.length:Int)>16777216)=false:=Xf;have q5:decide (16777216<PG.length)=false:=Xf;have b2:=Y4 (Zd.brow m.u);have bI:=Y4 (ZBs m.t);have bo:=DT.Zd0 _ EG wr m.x.any;have bM:DM.ZbC EG=true:=by rw [<- al,<- be.z];exact HZ.z.are
   rw [bM,Xe rfl,Xe rfl] at bo;have b9:=Y4 bo;have b8:=Y4 (Zf0 co.z HB.z);have bN:=Y4 (Zv.below bJ.z HB.z);have cQ:=Y4 av;have cP:=Y4 al;have bK:=Y4 ax;have b6:=Y4 aw;clear m av al ax q bM bo j HG HB bJ co b1 ci aq X cz aw;go_wp2_with fail;refine b9.z.mono ?_;rintro e w6 ⟨u6,rfl,bm,A⟩;obtain ⟨p6,c6,rfl,_⟩:=(Zd.brow bm).shape;have cH:=Y4 (Zd.brow bm);have cp:=Y4 (Zv.below b2.z A);have cF:=Y4 (ZcF.below bI.z A);have b7:=Y4 (Zv.below bN.z A);have U:=Y4 (Zf0 b8.z A);clear bm A b9 b2 bI bN b8;go_wp2_with fail;refine (b0.z _ U.z).mono ?_;rintro e w7 ⟨rfl,a3⟩;obtain ⟨⟨f0,f1,f2,f3,f4⟩,hF⟩:∃F,Zj l=F:=⟨_,rfl⟩;have ad:=bY.z;rw [hF] at ad ⊢;unfold ZkT;obtain ⟨n4,bu⟩:∃z:Int,(f4:Int)=z:=⟨_,rfl⟩;dsimp only at ad ⊢;rw [bu] at ad ⊢;have cd:Zdo (Zj l)=VM.Zcc [f0,f1,f2,f3,n4]:=by rw [hF,<- bu];simp [Zdo,VM.Zcc]
   obtain ⟨V,ao⟩:=Xn (w7.alloc (.cells #[.int .i64 0,.int .i64 0,.int .i64 f0,.int .i64 f1,.int .i64 f2,.int .i64 f3,.int .i64 n4] 65));have O:Below w7.heap.size w7 V:=by rw [<- ao];exact (Below.refl _ _).alloc (Xa _) _
   have g8:V.heap[w7.heap.size]? = some (.cells #[.int .i64 0,.int .i64 0,.int .i64 f0,.int .i64 f1,.int .i64 f2,.int .i64 f3,.int .i64 n4] 65 (0,0)):=by rw [<- ao];exact heap_alloc_new _ _
   have y2:V.cell? ⟨w7.heap.size,2,none⟩=some (.int .i64 f0):=Zf g8 2;have y3:V.cell? ⟨w7.heap.size,3,none⟩=some (.int .i64 f1):=Zf g8 3;have y4:V.cell? ⟨w7.heap.size,4,none⟩=some (.int .i64 f2):=Zf g8 4;have y5:V.cell? ⟨w7.heap.size,5,none⟩=some (.int .i64 f3):=Zf g8 5;have y6:V.cell? ⟨w7.heap.size,6,none⟩=some (.int .i64 n4):=Zf g8 6;obtain ⟨W9,ay⟩:=Xn (V.alloc (.cells #[.int .i64 f0,.int .i64 f1,.int .i64 f2,.int .i64 f3,.int .i64 n4] 3));have ce:Below V.heap.size V W9:=by rw [<- ay];exact (Below.refl _ _).alloc (Xa _) _
   have cs:Zc6 W9 (.slice (some ⟨V.heap.size,0,none⟩) 5 5) [f0,f1,f2,f3,n4]:=by rw [<- ay];exact Row.of_own (ZdO V [.int .i64 f0,.int .i64 f1,.int .i64 f2,.int .i64 f3,.int .i64 n4] 3 0 (XX _) (by unfold maxLen;simp))
   have bP:=Y4 (VG.Zzj _ [f0,f1,f2,f3,n4] W9 cs (fun k hk=>by
    have:=ad ([f0,f1,f2,f3,n4].getD k 0) (by rw [XaO,XZ hk];exact XI hk);exact this) (by simp))
   have o:=(Zf0 a3 O).trans (ce.mono (Zf0 a3 O).size);have bD:=Y4 (Zv.below cH.z o);have bS:=Y4 (Zv.below cp.z o);have ca:=Y4 (ZcF.below cF.z o);have cm:=Y4 (Zv.below b7.z o);have cc:=Y4 (Zf0 U.z o);have cI:=Y4 ao;have ch:=Y4 ay;have cy:=Y4 cd;clear a3 O ce o ao ay g8 cs ad cd hF bu b0 cH cp cF b7 U bY;go_wp2_with (first|(rw [cI.z])|(rw [ch.z]))
   refine bP.z.mono ?_;rintro e dc ⟨c8,rfl,L,n⟩;rw [<- cy.z] at L;obtain ⟨pA,cA,rfl,_⟩:=(Zd.brow L).shape;have aL:=Y4 (Zd.brow L);have aC:=Y4 (Zv.below bD.z n);have aO:=Y4 (Zv.below bS.z n);have aV:=Y4 (ZcF.below ca.z n);have aT:=Y4 (Zv.below cm.z n);have ak:=Y4 (Zf0 cc.z n);clear L n bP bD bS ca cm cc cI ch cy y2 y3 y4 y5 y6;go_wp2_with fail;refine (bX.z _ ak.z).mono ?_;rintro e cU ⟨⟨dh,rfl,aa⟩,f⟩;obtain ⟨pB,cB,rfl,_⟩:=(Zd.brow aa).shape;have aI:=Y4 (Zd.brow aa);have aM:=Y4 (Zv.below aL.z f);have aP:=Y4 (Zv.below aC.z f);have aJ:=Y4 (Zv.below aO.z f);have aZ:=Y4 (ZcF.below aV.z f);have aR:=Y4 (Zv.below aT.z f);have aW:=Y4 (Zf0 ak.z f);have bp:=Y4 (BL.Zlm _ MG cU aZ.z (by rw [b6.z];omega) (fun s hs=>by rw [<- bK.z] at hs;obtain ⟨r,hr,rfl⟩:=X4.1 hs;have:=(ac.z r hr).2.2.1;omega));rw [b6.z] at bp;clear aa f bX aL aC aO aV aT ak;go_wp2_with fail;refine bp.z.mono ?_;rintro e ap ⟨de,rfl,J,aK⟩;have bC:Z8 (Zp l)=(BM.ZcG (BM.Zfv a.length) MG).1:=by unfold Z8;rw [be.z,bK.z]
   rw [<- bC] at J;obtain ⟨pC,cC,rfl,_⟩:=J.shape;obtain ⟨bz,I⟩:=Xn (ap.alloc (.cells #[.slice p1 (SM.encS l).length c1,.slice pB (Z3 0 l).length cB,.slice pu PG.length cu,.slice p6 (DM.ZbD EG).length c6,.slice pC (Z8 (Zp l)).length cC,.slice pA (Zdo (Zj l)).length cA] 23));have Y:Below ap.heap.size ap bz:=by rw [<- I];exact (Below.refl _ _).alloc (Xa _) _
   have cG:bz.heap[ap.heap.size]? = some (.cells #[.slice p1 (SM.encS l).length c1,.slice pB (Z3 0 l).length cB,.slice pu PG.length cu,.slice p6 (DM.ZbD EG).length c6,.slice pC (Z8 (Zp l)).length cC,.slice pA (Zdo (Zj l)).length cA] 23 (0,0)):=by rw [<- I];exact heap_alloc_new _ _
   have c:=Zf0 aK Y;have aB:Zax l=[SM.encS l,Z3 0 l,PG,DM.ZbD EG,Z8 (Zp l),Zdo (Zj l)]:=by rw [<- cQ.z,<- cP.z,<- be.z];rfl
   have aS:=Y4 (HJ.z bz _ (by rw [aB];exact ZmS cG (Zv.below aR.z c) (Zv.below aI.z c) (Zv.below aJ.z c) (Zv.below aP.z c) (Zv.below J Y) (Zv.below aM.z c)));have aE:=Y4 (Zf0 aW.z c);have aY:=Y4 I;clear J aK Y c cG aB bC I bp HJ aI aM aP aJ aZ aR aW;have df:=ZBK;go_wp2_with (rw [aY.z])
   refine aS.z.mono ?_;rintro e S ⟨dg,rfl,H,aN⟩;rw [cW.z] at H;obtain ⟨pD,cD,rfl,_⟩:=(Zd.brow H).shape;obtain ⟨bU,N⟩:=Xn (S.alloc (.cells #[.int .u8 76,.int .u8 83,.int .u8 69,.int .u8 71] 5));have Z:Below S.heap.size S bU:=by rw [<- N];exact (Below.refl _ _).alloc (Xa _) _
   have M:=Y4 (show Zd S.heap.size bU (.slice (some ⟨S.heap.size,0,none⟩) 4 4) [76,83,69,71] from by rw [<- N];exact ZdO S [.int .u8 76,.int .u8 83,.int .u8 69,.int .u8 71] 5 _ (Xa _) (by unfold maxLen;simp));have bE:=Y4 (Zv.below (Zd.brow H) Z);have bx:Y5 (FL≠[]):=Y4 (Xaa.1 bQ);have aU:=Y4 (Zf0 aE.z aN);have cJ:=Y4 Z;have bW:=Y4 N;clear H aN Z N aS aE aY;go_wp2_with (first|(at_builtin;go_loud (refine Zn rfl _ _ rfl _ [76,83,69,71] rfl (Zd.zero M.z) _ FL rfl bE.z bx.z (by simp only [Xh,Xv];omega) ?_;intro c4 c9 aF aX;obtain ⟨aQ,aG⟩:=TR.Zb2 cJ.z.size M.z aX aF;have cE:=Y4 aQ;have bB:=Y4 (cJ.z.trans aG);clear aF aX aQ aG))|(rw [bW.z]))
   go_ret2;exact ⟨_,rfl,Zd.weaken cE.z aU.z.size,Zf0 aU.z bB.z⟩
theorem Zv6:Zw3:=fun v l w d b a=>by
 rw [Zdz b]
 by_cases h:isS l=true/\l≠[]
 ·rw [Xe h];exact Zv5 v l w d h.1 b a h.2
 ·rw [Xc h];refine Zzm v l w d a ?_
  by_cases c:isS l=true
  ·exact .inr (Xaz fun e=>h ⟨c,e⟩)
  ·exact .inl (by simpa using c)
open RowKit MM
open EV (ZD Zae Z2)
open EM (Zm Z1 Trm ZX)
open PW (Za7)
open GM
variable {w:World} {v:Value}
theorem ZuP (l:List Zq):(ZaE l).length≠0:=by unfold ZaE;simp
theorem ZrP {B:Nat} {w':World} {a:List Xu} (h:TIn B w v a) (b:Below B w w'):TIn B w' v a:=TIn.below h b
theorem ZzS {l:List Zq} (h:isS l=true):ZAm l:=fun d a=>by
 obtain ⟨k,b,rfl⟩:=List.mem_iff_getElem.1 a;have:=(EM.ZaK.1 (SM.Zge h b).2.2).1;have h2:l[k].2.2.length<=16:=this;omega
theorem ZqV {a:List Int} (h:Zc6 w v a):ZF Go.Proofs.YtmomfobdpfajbaaGreat.MM.Zbk w v a:=(ZpC (f:=Value.int .i64) (hf:=fun _=>rfl) (show ZaY w.heap.size w v (a.map (Value.int .i64)) from h) (Xa _)).any
theorem ZuF (u v:Value) (l:List Zq) (i:List Xu) (a2 aU ix:Int) (w:World) (hu:ZF ZD w u l) (hv:ZcF w v i) (hf:ZaS l):Calls prog 4 #[u,v,.int .i64 a2,.int .i64 aU,.int .i64 ix] w (ZjG w):=by
 have aX:prog.follows .mixedOrders=true:=by kernel_rfl
 have aZ:=Y4 (ZAP u l w hu);have HV:=Y4 (show TIn w.heap.size w v i from hv);have aW:=Y4 (ZxY hf);have R:=Y4 (Zsz l);have HN:=Y4 (Zqy l);obtain ⟨pu,cu,rfl,_⟩:=hu.shape;obtain ⟨pv,cv,rfl,cM,bX⟩:=TIn.shape hv;unfold maxLen at bX;obtain ⟨L,hL⟩:=Xn (ZfG l);rw [hL] at aZ aW R HN;clear hu hv hf hL;go_enter func4,ntmps4;go_wp2_with fail;refine aZ.z.mono ?_;rintro e w1 ⟨u1,rfl,aw,aQ⟩;have ac:=Y4 aw.any.bel;have bC:=Y4 aQ;have cJ:=aQ.size;have HE:=Y4 (Zv6 _ L w1 aw.any R.z aW.z);obtain ⟨p1,c1,rfl,cC,a5,_⟩:=aw.any.shape;unfold maxLen at a5;clear aw aQ aZ;go_wp2_with fail;refine HE.z.mono ?_;rintro e w3 ⟨v3,rfl,t,aj⟩;have aA:=Y4 (Zsa bC.z aj);have bH:=Y4 (Ze0.below ac.z aj);have hg:=Zdz R.z
 by_cases I:isS L=true/\L≠[]
 ·rw [Xe I] at hg;rw [hg] at t ⊢;dsimp only at t ⊢;have hz:=sized I.1 R.z;have az:=Y4 I;have HZ:=Y4 hz;have HP:=Y4 (Zhh v3 L w3 (Zd.brow t) I.1 R.z aW.z I.2);have a4:(ZaE L).length≠0:=ZuP L;obtain ⟨gy,cy,rfl,cG,b7,ca⟩:=t.shape a4;unfold maxLen at ca;have cE:gy<w3.heap.size:=(World.ownsRow.lt t gy rfl).2;obtain ⟨U,aC⟩:=Xn ((ZaE L).length);have aM:Y5 (Zd w1.heap.size w3 (.slice (some ⟨gy,0,none⟩) U cy) (ZaE L)/\(ZaE L).length=U):=Y4 ⟨by rw [aC] at t;exact t,aC⟩;rw [aC] at a4 b7 HP ⊢;have cx:=aj.size;clear t aj hg I hz HE bC ac aC;go_wp2_with fail;refine HP.z.mono ?_;rintro e w4 ⟨g,rfl,ba,al⟩;have ag:=Y4 ba;have aK:=Y4 (Zsa aA.z al);have a9:=Y4 (Ze0.below bH.z (al.mono cx));have be:Y5 (Zd w1.heap.size w4 (.slice (some ⟨gy,0,none⟩) U cy) (ZaE L)/\(ZaE L).length=U):=Y4 ⟨aM.z.1.keep al,aM.z.2⟩;have cN:=al.size;have cK:w.heap.size<=w3.heap.size:=aA.z.size;clear ba al HP aA bH aM;go_wp2_with fail
  go_loopw [15] (fun iv wr=>∃(k:Nat) (Z:Xu),iv=.int .i64 (k:Int)/\k<=U/\Y5 (Zd w1.heap.size wr (.slice (some ⟨gy,0,none⟩) U cy) Z/\Z.length=U)/\Y5 (Kep (fun b=>b≠gy) w4 wr)) (fun iv _=>U - (intOf iv).toNat)
  case atStart=>exact ⟨0,ZaE L,rfl,XX _,be,Y4 (Kep.refl _ _)⟩
  case round =>
   obtain ⟨k,Z,rfl,hk,O,HK⟩:=hrel
   by_cases Y:k<U
   ·have q1:decide ((k:Int)<(U:Int))=true:=Xt;have q2:decide (k<U)=true:=Xt;have q3:(k:Int)<(U:Int):=by omega
    obtain ⟨c,hc⟩:∃c,Z[k]? = some c:=⟨_,XZ (show k<Z.length by rw [O.z.2];exact Y)⟩;have cz:=O.z.1.cell (j:=k) hc;clear hc;have fz:=O.z.1.free k;have ak:Y5 (Zd w1.heap.size (wr.setCell ⟨gy,k,none⟩ (.int .u8 0)) (.slice (some ⟨gy,0,none⟩) U cy) (Z.set k 0)/\(Z.set k 0).length=U):=Y4 ⟨O.z.1.set (j:=k) 0,by rw [Xav];exact O.z.2⟩;have co:Y5 (Kep (fun b=>b≠gy) w4 (wr.setCell ⟨gy,k,none⟩ (.int .u8 0))):=Y4 (HK.z.trans (Zy (fun h=>h rfl) _));clear O HK;go_wp2_with fail;go_roundw
    case rel=>exact ⟨k+1,Z.set k 0,by go_num,by omega,ak,co⟩
    case measure=>simp [intOf];omega
   ·obtain rfl:k=U:=by omega
    have q1:decide ((k:Int)<(k:Int))=false:=by simp
    have q2:decide (k<k)=false:=by simp
    obtain ⟨W5,cA⟩:∃W,W=wr:=⟨_,rfl⟩;subst cA;have bN:Below w1.heap.size w4 W5:=HK.z.below (by omega) (fun b hb e=>by omega);have bn:Ze0 ZD w1.heap.size W5 (.slice p1 L.length c1) L:=Ze0.below a9.z bN;have aB:Below w.heap.size w W5:=aK.z.trans (HK.z.below (by have:=aK.z.size;omega) (fun b hb e=>by omega));have bj:Zfn (fun _=>True) W5 (some ⟨g,0,none⟩) L:=(ag.z.keep (T:=fun b=>b≠gy) (Kep.refl _ _) (fun b hb=>by omega)).keep HK.z (fun b hb=>hb) |>.any;have aN:=Y4 bn.any;have au:=Y4 aB;have aa:=Y4 bj;have ad:=Y4 (ZrP HV.z aB);have bM:L.length<=65536:=by have:=HN.z;omega
    have bQ:=Y4 (ZoH _ L W5 aN.z bM);have a8:=aB.size;clear bN bn aB bj O HK ag aK a9 be HV Y;go_wp2_with fail;refine bQ.z.mono ?_;rintro e w6 ⟨rv,us,rfl,bK,bE⟩;have X:=RAt.row bK;have an:∀r∈Zp L,r.1.length<=65:=fun r hr=>(HZ.z.row r hr).2.2.1;have cF:(Zp L).length<=100000:=HZ.z.rows;have aE:=Y4 X;have bL:=Y4 (Zrt rv (Zp L) w6 X (by omega) (fun r hr=>by have:=an r hr;omega));have bP:=Y4 an;obtain ⟨pr,cr,rfl,_⟩:=X.shape;have bD:=Y4 bE;clear bK bE X an bQ;go_wp2_with fail;refine bL.z.mono ?_;rintro e w7 ⟨fv,rfl,ay,aJ⟩;obtain ⟨pf,cf,rfl,_⟩:=ay.shape;obtain ⟨FL,aH⟩:=Xn (Z8 (Zp L));have bV:=Ze6 (Zp L);have bY:=BM.Zdf (Zp L).length;rw [aH] at ay bV ⊢;obtain ⟨E,av⟩:=Xn (w7.alloc (.cells #[.slice pf FL.length cf] 44));have ar:Below w7.heap.size w7 E:=by rw [<- av];exact (Below.refl _ _).alloc (Xa _) _
    have aY:E.heap[w7.heap.size]? = some (.cells #[.slice pf FL.length cf] 44 (0,0)):=by rw [<- av];exact heap_alloc_new _ _
    have J:=grow bD.z (grow aJ ar);have cg:=Y4 (fun W (o:Below E.heap.size E W)=>(Zf ((o.block w7.heap.size (Xq.1 aY).1).trans aY) 0:W.cell? ⟨w7.heap.size,0,none⟩=some (.slice pf FL.length cf)));have cl:=Y4 (fun W (o:Below E.heap.size E W)=>Zv.below (Zv.below ay ar) o);have bo:=Y4 (fun W (o:Below E.heap.size E W)=>((aE.z.below aJ).below ar).below o);have D:=Y4 (fun W (o:Below E.heap.size E W)=>(aa.z.below J).below o);have aD:=Y4 (fun W (o:Below E.heap.size E W)=>(aN.z.below J).below o);have bB:=Y4 (au.z.trans (J.mono a8));have ch:=Y4 (ZrP ad.z (J.mono a8));have bW:w.heap.size<=E.heap.size:=bB.z.size;have cn:=Y4 av;have cj:=Y4 aH;have bm:8<=FL.length:=by omega
    have bF:FL.length<=131072:=by omega
    clear aJ ar aY J ay av aH bV bY bL aa aN au ad aE bD;go_wp2_with (rw [cn.z])
    go_loopw [18] (fun kv wr=>∃j:Nat,kv=.int .i64 (j:Int)/\j<=20/\j<=i.length/\Y5 (Below E.heap.size E wr)) (fun kv _=>20 - (intOf kv).toNat)
    case atStart=>exact ⟨0,rfl,by omega,by omega,Y4 (Below.refl _ _)⟩
    case round =>
     obtain ⟨j,rfl,cD,cI,q⟩:=hrel
     by_cases Y:j<i.length/\j<20
     ·obtain ⟨aq,aI⟩:=Y;have q1:decide ((j:Int)<(i.length:Int))=true:=Xt;have q2:decide (j<i.length)=true:=Xt;have q3:(j:Int)<(i.length:Int):=by omega
      have q4:decide ((j:Int)<20)=true:=Xt;have q5:decide (j<20)=true:=Xt;obtain ⟨bq,oq,rfl,cH,cq⟩:=(ch.z.below (q.z.mono bW)).at_ aq;obtain ⟨T,hT⟩:=Xn (i[j]);rw [hT] at cq;clear hT;obtain ⟨m,hm⟩:=Xn (min T.length 100);have b2:min (T.length:Int) 100=(m:Int):=by omega
      have b9:(if (100:Int)<(T.length:Int) then (100:Int) else (T.length:Int))=(m:Int):=by split<;>omega
      have cO:=ZaX T;have aS:=DT.ZoW T m;have cL:(m:Int)<=(T.length:Int):=by omega
      have ck:(T.take m).length<=100:=by rw [Xi];omega
      obtain ⟨s,hs⟩:=Xn (T.take m);rw [hs] at aS ck;have cb:=Y4 (And.intro aq aI);clear hs hm aq aI;go_wp2_with fail;go_quiet (fail)
      go_wp2_with fail;obtain ⟨p,a⟩:=Xn ((wr.drewN nq).drew);have bd:Below E.heap.size E (wr.drewN nq):=MM.below_drewN q.z nq;have y:Below (wr.drewN nq).heap.size (wr.drewN nq) p:=by rw [<- a];exact (Below.refl _ _).drew
      have am:=Y4 (grow bd y);have ab:=Y4 a;clear a bd y q cq;refine RG.Zal [(0,true),(1,true),(3,true),(4,true),(2,false),(5,false),(6,false),(7,true),(8,true),(9,true),(10,true),(12,true),(13,true),(11,false),(14,false),(15,true),(16,true),(17,true),(18,true),(19,true),(21,true),(22,true),(20,false),(23,false),(24,false),(25,true),(26,true)] aX (by kernel_rfl) rfl (by kernel_rfl) (fun _ _ d _ _ h=>by cases d<;>exact h) ?_;simp only [RG.Zt,XC,XN,XU,XV,XS];rw [ab.z];repeat (refine RG.take (by rfl) (by intro W o;go_simp;with_reducible rfl) ?_;simp only [Act.put,Xm,Xo,Xl])
      refine RG.alone (by rfl) (fun K f => ?_);go_simp;refine (ZmR (some ⟨g,0,none⟩) L s p (D.z p am.z) az.z.1 R.z).mono ?_;rintro e y1 ⟨v1,rfl,br,b⟩;go_simp;refine f.z _ _ b ?_;clear f K;have bi:=Y4 (grow am.z b);have bb:=Y4 br;clear b br;refine RG.alone (by rfl) (fun K f => ?_);go_simp;refine (Ztf _ (Zp L) s y1 (bo.z y1 bi.z) (RM.Zem _)).mono ?_;rintro e y2 ⟨⟨v2,rfl,bR⟩,b⟩;go_simp;refine f.z _ _ b ?_;clear f K;have ct:=Y4 (grow bi.z b);have a3:=Y4 (PW.Zkm v1 v2 (Zm (Zp L) s) (Zm (Zp L) s) y2 (PW.Za7.below bb.z b) (SG.Zpx bR).row);rw [Xs rfl] at a3;clear b bR bb;refine RG.alone (by rfl) (fun K f => ?_);go_simp;refine (a3.z).mono ?_;rintro e y3 ⟨rfl,b⟩;go_simp;refine f.z _ _ b ?_;clear f K;have a1:=Y4 (grow ct.z b);clear b a3;repeat (refine RG.take (by rfl) (by intro W o;have f0:=cg.z W (grow a1.z o);go_simp;with_reducible rfl) ?_;simp only [Act.put,Xm,Xo,Xl])
      refine RG.alone (by rfl) (fun K f => ?_);go_simp;refine (ZmB (some ⟨g,0,none⟩) L s y3 (D.z y3 a1.z) (fun _=>by omega)).mono ?_;rintro e y4 ⟨rfl,b⟩;go_simp;refine f.z _ _ b ?_;clear f K;have bx:=Y4 (grow a1.z b);clear b;have b6:(!L.isEmpty)=true:=by have:=az.z.2;cases hL:L with|nil=>exact absurd hL this|cons=>rfl
      rw [b6,Xac,cj.z];refine RG.alone (by rfl) (fun K f => ?_);go_simp;refine (BL.Zzs _ FL s y4 (cl.z y4 bx.z) (by omega) bm bF).mono ?_;rintro e y5 ⟨rfl,b⟩;go_simp;refine f.z _ _ b ?_;clear f K;have bU:=Y4 (grow bx.z b);clear b;obtain ⟨mb,bl⟩:=Xn (BM.Zh2 FL s);rw [bl];clear bl;repeat (refine RG.take (by rfl) (by intro W o;go_simp;with_reducible rfl) ?_;simp only [Act.put,Xm,Xo,Xl])
      refine RG.alone (by rfl) (fun K f => ?_);go_simp;refine (Zrh (some ⟨g,0,none⟩) L s y5 (D.z y5 bU.z) az.z.1 R.z).mono ?_;rintro e y6 ⟨⟨v6,rfl,ai⟩,b⟩;go_simp;refine f.z _ _ b ?_;clear f K;have bA:=Y4 (grow bU.z b);have bJ:=Y4 ai;clear b ai;refine RG.alone (by rfl) (fun K f => ?_);go_simp;refine (Zrz _ (Zp L) s y6 (bo.z y6 bA.z) (by omega) (by omega) (fun x hx=>by have:=bP.z x hx;omega)).mono ?_;rintro e y7 ⟨⟨v7,rfl,bu⟩,b⟩;go_simp;refine f.z _ _ b ?_;clear f K;have cc:=Y4 (grow bA.z b);have bT:=Y4 (TK.Zwg v6 v7 _ y7 (TIn.mono (TIn.below bJ.z b) b.size) bu);clear b bu bJ;refine RG.alone (by rfl) (fun K f => ?_);go_simp;refine (bT.z).mono ?_;rintro e y8 ⟨rfl,b⟩;go_simp;refine f.z _ _ b ?_;clear f K;have ci:=Y4 (grow cc.z b);clear b bT;repeat (refine RG.take (by rfl) (by intro W o;go_simp;with_reducible rfl) ?_;simp only [Act.put,Xm,Xo,Xl])
      refine RG.done ?_;obtain ⟨aq,aI⟩:=cb.z;cases mb
      all_goals
       go_wp2_with fail;go_roundw
       case rel=>exact ⟨j+1,by go_num,by omega,by omega,ci⟩
       case measure=>simp [intOf];omega
     ·obtain ⟨W9,cs⟩:∃W,W=wr:=⟨_,rfl⟩;subst cs
      by_cases bp:j<i.length
      case' pos =>
       have q1:decide ((j:Int)<(i.length:Int))=true:=Xt;have q2:decide ((j:Int)<20)=false:=Xf;have q3:decide (j<i.length)=true:=Xt;have q4:decide (j<20)=false:=Xf;clear Y bp
      case' neg =>
       have q1:decide ((j:Int)<(i.length:Int))=false:=Xf;have q3:decide (j<i.length)=false:=Xf;clear Y bp
      all_goals
       have a:=ZzS az.z.1
       by_cases ax:0<=ix/\ix<(L.length:Int)
       case' pos =>
        obtain ⟨N,bh⟩:=ax;obtain ⟨K,rfl⟩:=Xay N;have f:K<L.length:=by omega
        have ao:atG L (K:Int)=some L[K]:=by unfold atG;rw [Xe ⟨N,bh⟩];simp [f]
        have M:=ZtR (some ⟨g,0,none⟩) L (K:Int) W9 (D.z W9 q.z) a;rw [ao] at M;have af:(L.drop K).take 1=[L[K]]:=by rw [X7 f];rfl
        have q6:decide ((K:Int)>=0)=true:=by simp
        have q7:decide ((K:Int)<(L.length:Int))=true:=by rw [Xg];exact bh
        have q8:decide (K<L.length)=true:=by rw [Xg];exact f
        obtain ⟨⟨sq,z,fs⟩,bt⟩:∃d,L[K]=d:=⟨_,rfl⟩;rw [bt] at M af;have ae:=Y4 M;have bG:=Y4 af;clear a ao M af bt;go_wp2_with fail;refine ae.z.mono ?_;rintro e z1 ⟨b4,rfl,n,G⟩;dsimp only [Option.getD_some,Option.isSome_some] at n ⊢;obtain ⟨C,B,rfl,_⟩:=n.shape;obtain ⟨z2,H⟩:=Xn (z1.alloc (.cells #[.int .i64 sq,.int .i64 z,.slice C fs.length B] 59));have A:Below z1.heap.size z1 z2:=by rw [<- H];exact (Below.refl _ _).alloc (Xa _) _
        have a7:Three z2 z1.heap.size 59 (.int .i64 sq) (.int .i64 z) (.slice C fs.length B):=by rw [<- H];exact Zaj z1 _ _ _ _
        obtain ⟨p,a⟩:=Xn z2.drew;have y:Below z2.heap.size z2 p:=by rw [<- a];exact (Below.refl _ _).drew
        have bz:=Y4 (fun W (o:Below p.heap.size p W)=>((a7.keep (Za (fun _=>True) y) trivial).keep (Za (fun _=>True) o) trivial).cells);have ac:=Y4 (fun W (o:Below p.heap.size p W)=>(((n.any.below A).below y).below o));have am:=Y4 (grow q.z (grow G (grow A y)));have aV:=Y4 (Below.refl p.heap.size p);have ak:=Y4 H;have ab:=Y4 a;obtain ⟨db,bs,_,rfl,_⟩:=Z2 (aD.z W9 q.z) f;have ce:(0:Int)<=(K:Int):=by omega
        have b8:(0:Int)<=(K:Int)+1:=by omega
        have cw:(K:Int)+1<=(c1:Int):=by omega
        have cp:((K:Int)+1).toNat=K+1:=by omega
        have b5:(K:Int)<=((K+1:Nat):Int):=by omega
        have b3:IntKind.i64.wrap ((K:Int)+1)=(K:Int)+1:=by rw [IntKind.wrap_i64];omega
        clear n G H A a7 a y q ae;go_wp2_with (rw [ak.z])
        refine RG.Zal [(0,true),(1,true),(2,true),(3,true),(4,true),(5,true),(6,true),(8,true),(9,true),(10,true),(11,true),(12,true),(7,false),(13,false),(14,true),(15,true),(16,true)] aX (by kernel_rfl) rfl (by kernel_rfl) (fun _ _ d _ _ h=>by cases d<;>exact h) ?_;simp only [RG.Zt,XC,XN,XU,XV,XS];rw [ab.z];repeat (refine RG.take (by rfl) (by intro W o;obtain ⟨x0,x1,x2⟩:=bz.z W (grow aV.z o);go_simp;with_reducible rfl) ?_;simp only [Act.put,Xm,Xo,Xl])
        refine RG.alone (by rfl) (fun K2 ah => ?_);go_simp;refine ah.z _ _ ((Below.refl _ _).alloc (Xa _) _) ?_;clear ah K2;refine RG.alone (by rfl) (fun K2 ah => ?_);go_simp
        have aF:ZF ZD (p.alloc (.cells #[.int .i64 sq,.int .i64 z,.slice C fs.length B] 59)) (.slice (if c1=K then some ⟨db,bs,none⟩ else some ⟨db,bs+K*3,none⟩) 1 (c1 - K)) [(sq,(z,fs))]:=by
         have h:=(ZB.drop (aD.z _ (grow am.z ((Below.refl p.heap.size p).alloc (Xa _) (.cells #[.int .i64 sq,.int .i64 z,.slice C fs.length B] 59)))) K (by omega)).take 1 (by omega);rw [bG.z,Xae,ZZ] at h;exact h
        have aG:ZF ZD (p.alloc (.cells #[.int .i64 sq,.int .i64 z,.slice C fs.length B] 59)) (.slice (some ⟨p.heap.size,0,none⟩) 1 1) [(sq,(z,fs))] :=
         ZB.any (ZhS (e:=59) (S:=fun _=>True) p [[.int .i64 sq,.int .i64 z,.slice C fs.length B]] [(sq,(z,fs))] (by unfold maxLen;simp) (Zbq.single (EV.ZcB.2 ⟨_,rfl,ac.z p aV.z⟩)))
        have aT:=EV.ZpE _ _ _ _ _ aG aF;rw [Xs rfl] at aT;refine aT.mono ?_;rintro e y1 ⟨rfl,b1⟩;go_simp;refine ah.z _ _ b1 ?_;clear ah K2;have aL:=Y4 (grow am.z (grow ((Below.refl p.heap.size p).alloc (Xa _) (.cells #[.int .i64 sq,.int .i64 z,.slice C fs.length B] 59)) b1));clear b1 aT aG aF bz ac aV;repeat (refine RG.take (by rfl) (by intro W o;go_simp;with_reducible rfl) ?_;simp only [Act.put,Xm,Xo,Xl])
        refine RG.done ?_;obtain ⟨yE,a0⟩:∃W,W=y1:=⟨_,rfl⟩;subst a0;clear ce b8 cw cp b5 b3
       case' neg =>
        have ao:atG L ix=none:=by unfold atG;rw [Xc ax]
        have M:=ZtR (some ⟨g,0,none⟩) L ix W9 (D.z W9 q.z) a;rw [ao] at M;have ae:=Y4 M;clear a ao M;go_wp2_with fail;refine ae.z.mono ?_;rintro e z1 ⟨b4,rfl,n,G⟩;dsimp only [Option.getD_none,Option.isSome_none] at n ⊢;obtain ⟨C,B,rfl,_⟩:=n.shape;obtain ⟨z2,H⟩:=Xn (z1.alloc (.cells #[.int .i64 SM.ZcA.1,.int .i64 SM.ZcA.2.1,.slice C SM.ZcA.2.2.length B] 59));have A:Below z1.heap.size z1 z2:=by rw [<- H];exact (Below.refl _ _).alloc (Xa _) _
        obtain ⟨p,a⟩:=Xn z2.drew;have y:Below z2.heap.size z2 p:=by rw [<- a];exact (Below.refl _ _).drew
        have aL:=Y4 (grow q.z (grow G (grow A y)));have ak:=Y4 H;have ab:=Y4 a;clear n G H A a y q ae
        by_cases N:0<=ix
        case' pos =>
         have q6:decide (ix>=0)=true:=by rw [Xg];exact N
         have q7:decide (ix<(L.length:Int))=false:=by rw [Xj];exact fun h=>ax ⟨N,h⟩
        case' neg =>
         have q6:decide (ix>=0)=false:=by rw [Xj];exact N
        all_goals
         clear ax N;go_wp2_with (rw [ak.z])
         refine RG.Zal [(0,true),(1,true),(2,true),(3,true),(4,true),(5,true),(6,true),(8,true),(9,true),(10,true),(11,true),(12,true),(7,false),(13,false),(14,true),(15,true),(16,true)] aX (by kernel_rfl) rfl (by kernel_rfl) (fun _ _ d _ _ h=>by cases d<;>exact h) ?_;simp only [RG.Zt,XC,XN,XU,XV,XS];rw [ab.z]
         iterate 6 (refine RG.take (by rfl) (by intro W o;go_simp;with_reducible rfl) ?_;simp only [Act.put,Xm,Xo,Xl])
         iterate 6 (refine RG.skip (by rfl) ?_;simp only [Act.put,Xm,Xo,Xl])
         iterate 2 (refine RG.Zab (by rfl) ?_;simp only [Act.put,Xm,Xo,Xl])
         iterate 1 (refine RG.skip (by rfl) ?_;simp only [Act.put,Xm,Xo,Xl])
         iterate 2 (refine RG.take (by rfl) (by intro W o;go_simp;with_reducible rfl) ?_;simp only [Act.put,Xm,Xo,Xl])
         refine RG.done ?_;obtain ⟨yE,a0⟩:∃W,W=p:=⟨_,rfl⟩;subst a0
       all_goals
        have bc:=Y4 (Zjg (some ⟨g,0,none⟩) L yE (D.z yE aL.z));go_wp2_with fail;refine bc.z.mono ?_;rintro e s1 ⟨rfl,b⟩;have bv:=Y4 (grow aL.z b);clear b bc;have aP:=Y4 (Zrd (some ⟨g,0,none⟩) L s1 (D.z s1 bv.z));obtain ⟨⟨f1,f2,f3,f4,f5⟩,aR⟩:∃F,Zj L=F:=⟨_,rfl⟩;have b0:=Y4 aR;rw [aR] at aP;clear aR;go_wp2_with fail;refine aP.z.mono ?_;rintro e s2 ⟨rfl,b⟩;have bS:=Y4 (grow bv.z b);clear b aP;have V:=Y4 (ZoC _ L s2 (aD.z s2 bS.z));rw [b0.z] at V;unfold ZkT at V;go_wp2_with fail;refine V.z.mono ?_;rintro e s3 ⟨rfl,b⟩;have bk:=Y4 (grow bS.z b);clear b V;have cB:=ZAH 0 0 f1 f2 f3 f4 (f5:Int) s3;have bf:=Y4 (Zne (some ⟨g,0,none⟩) L s3 (D.z s3 bk.z));go_wp2_with fail;refine bf.z.mono ?_;rintro e s4 ⟨rfl,b⟩;have ag:=Y4 (grow bk.z b);clear b bf cB;have bw:=Y4 (Zs7 (some ⟨g,0,none⟩) L a2 aU s4 (D.z s4 ag.z) bM);go_wp2_with fail;refine bw.z.mono ?_;rintro e s5 ⟨⟨v5,rfl,bg⟩,b⟩;have aa:=Y4 (grow ag.z b);have ad:=Y4 (ZqV bg);clear b bg bw;have bI:=Y4 (Ztg _ L a2 aU s5 (aD.z s5 aa.z) (by omega));go_wp2_with fail;refine bI.z.mono ?_;rintro e s6 ⟨⟨v6,rfl,ai⟩,b⟩;have cd:=Y4 (grow aa.z b);have aO:=Zgv v5 v6 _ _ s6 (ad.z.below b) (ZqV ai);rw [Xs rfl] at aO;have bO:=Y4 aO;clear b ai bI ad aO;go_wp2_with fail;refine bO.z.mono ?_;rintro e s7 ⟨rfl,b⟩;have bZ:=Y4 (grow cd.z b);clear b bO;have ap:=Y4 (ZnE s7);go_wp2_with fail;refine ap.z.mono ?_;rintro e s8 ⟨rfl,b⟩;have cm:=Y4 (bB.z.trans ((grow bZ.z b).mono bW));clear b ap;go_wp2_with fail;go_ret;exact ⟨rfl,cm.z⟩
 ·rw [Xc I] at hg;rw [hg];have ap:=Y4 (ZnE w3);obtain ⟨p3,c3,rfl,_⟩:=(Zd.brow t).shape;clear t aj I HE;dsimp only;go_wp2_with fail;refine ap.z.mono ?_;rintro e w5 ⟨rfl,a6⟩;have au:=Y4 (Zsa aA.z a6);clear a6;go_wp2_with fail;go_ret;exact ⟨rfl,au.z⟩
