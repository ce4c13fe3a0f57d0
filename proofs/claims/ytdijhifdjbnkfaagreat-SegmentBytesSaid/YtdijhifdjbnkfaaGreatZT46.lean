import Derived.Test.YtdijhifdjbnkfaaGreatZT45
import Derived.Test.YtdijhifdjbnkfaaGreatZT36
set_option maxRecDepth 100000
set_option maxHeartbeats 0
set_option linter.unusedVariables false
set_option linter.unusedSimpArgs false
namespace Go.Proofs.YtdijhifdjbnkfaaGreat
open Lib (hid)
open Tryz
namespace SR
open RowKit MM VM SM
variable {S:Nat->Prop} {w:World} {n:Nat}
def ZkD:Codec Zf0:=ZeJ Zbw (ZeJ Zbw Zbw)
theorem Ztw {h:List Value} {x:Zf0}:ZkD.on S w h x↔h=[.int .i64 x.1,.int .i64 x.2.1,.int .i64 x.2.2]:=by
 constructor
 ·rintro ⟨a,b,rfl,g,c,d,rfl,f,e⟩;have g:a=[.int .i64 x.1]:=g;have f:c=[.int .i64 x.2.1]:=f;have e:d=[.int .i64 x.2.2]:=e;rw [g,f,e];rfl
 ·rintro rfl;exact ⟨[_],[_,_],rfl,rfl,[_],[_],rfl,rfl,rfl⟩
theorem ZCO:Elem ZkD prog 231 234 24:=⟨underlying231,by
 have h:(prog.info? 234).map (fun i=>(i.zero,i.size,i.bytes))=some (some (.agg #[.int .i64 0,.int .i64 0,.int .i64 0]),3,24):=by kernel_rfl
 obtain ⟨i,b,c,a,d⟩:=info_parts h;exact ⟨i,_,b,c,a,d,rfl⟩⟩
theorem ZAB {p:Option Addr} {e:Nat} {hs:List Zf0} (h:ZD ZkD S w (.slice p n e) hs) {k:Nat} (g:k<hs.length) :
  ∃b off,p=some ⟨b,off,none⟩/\b<w.heap.size/\S b/\w.cell? ⟨b,off+k*3,none⟩=some (.int .i64 hs[k].1)/\w.cell? ⟨b,off+k*3+1,none⟩=some (.int .i64 hs[k].2.1)/\w.cell? ⟨b,off+k*3+2,none⟩=some (.int .i64 hs[k].2.2):=by
 obtain ⟨b,off,vs,i,d,f,a,c⟩:=h.at_ g;rw [Ztw] at a;subst a;exact ⟨b,off,i,d,f,c 0 _ rfl,c 1 _ rfl,c 2 _ rfl⟩
def ZhA (S:Nat->Prop) (g:Nat) (s:List Zf0×Xu×Bool) (w:World) (e:Ending) (w':World):Prop :=
 ∃u,e=.returned u/\Zz ZkD 234 w.heap.size (fun _=>False) w' u s.1/\Rd S w' g s.2.1 s.2.2/\Kep (fun b=>b≠g) w w'
theorem Zsd (f:Nat) (l:Xu) (o:Bool):ZT f 0 l o=([],l,o):=by cases f<;>simp [ZT]
theorem Zsc {f:Nat} {l:Xu} {o:Bool} (c:n≠0):ZT (f+1) n l o =
  let a:=Ze 1099511627776 l o
  let b:=Ze a.2.1.length a.2.1 a.2.2
  let r:=ZT f (n - 16) b.2.1 b.2.2
  (((((min n 16:Nat):Int),((a.1:Int),(b.1:Int))):Zf0)::r.1,r.2):=by
 rw [ZT,Xa c]
theorem Zj1 (S:Nat->Prop) (g:Nat) (l:Xu) (o:Bool) (w:World) (h:Rd S w g l o) (hg:¬S g) (hS:∀b,S b->b<w.heap.size) (hl:l.length<=1099511627776) :
  Calls prog 157 #[.pointer (some ⟨g,0,none⟩)] w (ZhA S g (ZT 4096 (Ze 65536 l o).1 (Ze 65536 l o).2.1 (Ze 65536 l o).2.2) w):=by
 have aE:=h.lt;have q:=hid (fun m l o W (V:m<=1099511627776) (h:Rd S W g l o)=>ZaT S g m l o W V h hg);have H:=q.out 65536 l o w (by omega) h;have Z:=Zcn 65536 l o;have ac:=ZbW 65536 l o;obtain ⟨⟨n,l1,r⟩,e1⟩:∃s,Ze 65536 l o=s:=⟨_,rfl⟩;rw [e1] at H Z ac ⊢;dsimp only at H Z ac ⊢;have H:=hid H;obtain ⟨B,hF⟩:=Xn (ZT 4096 n l1 r);have ae:Hid ((([]:List Zf0)++(ZT 4096 ((n:Int).toNat) l1 r).1,(ZT 4096 ((n:Int).toNat) l1 r).2)=B):=hid (by rw [<- hF];rfl);rw [hF];have ao:=hid hS;clear e1 hF h hS;go_enter func157,ntmps157;go_wp2_with fail;refine H.out.mono ?_;rintro e w1 ⟨rfl,h1,k1⟩;have ai:=hid h1;have R:=hid k1;have ad:=hid (Zz.nil_ (C:=ZkD) 234 w.heap.size (fun _=>False) w1);clear h1 k1 H;go_wp2_with fail
 go_loopw [3,4] (fun lv nv wr=>∃(z:Int) (acc:List Zf0) (L:Xu) (o:Bool) (f:Nat),nv=.int .i64 z /\ -16<=z/\z<=65536/\(z.toNat+15) / 16<=f/\acc.length+f=4096/\L.length<=1099511627776/\Hid ((acc++(ZT f z.toNat L o).1,(ZT f z.toNat L o).2)=B)/\Hid (Rd S wr g L o)/\Hid (Zz ZkD 234 w.heap.size (fun _=>False) wr lv acc)/\Hid (Kep (fun b=>b≠g) w wr)) (fun _ nv _=>(intOf nv).toNat)
 case atStart=>exact ⟨n,[],l1,r,4096,rfl,by omega,by omega,by omega,rfl,by omega,ae,ai,ad,R⟩
 case round =>
  obtain ⟨z,acc,L,o,f,rfl,aC,aB,hf,aw,hL,HF,v,HO,HK⟩:=hrel;clear ae ai ad R;have ay:=HK.out.size;obtain ⟨pl,cl,rfl,aA,aD,_⟩:=HO.out.any.shape
  by_cases hz:0<z
  ·have q1:decide (z>0)=true:=Xt;have q2:decide (0<z)=true:=Xt;obtain ⟨f,rfl⟩:∃k,f=k+1:=⟨f - 1,by omega⟩;have c:=HF.out;rw [Zsc (by omega)] at c;dsimp only at c;have J:=q.out 1099511627776 L o wr (by omega) v.out;have D:=Zcn 1099511627776 L o;have X:=ZbW 1099511627776 L o;obtain ⟨⟨a,y,r⟩,e1⟩:∃s,Ze 1099511627776 L o=s:=⟨_,rfl⟩;rw [e1] at c J D X;dsimp only at c J D X;obtain ⟨m,V⟩:=Xn y.length;have I:=fun W (h:Rd S W g y r)=>q.out m y r W (by omega) h;have x:=Zcn m y r;have Y:=ZbW m y r;rw [V] at c;obtain ⟨⟨b,L2,o2⟩,e2⟩:∃s,Ze m y r=s:=⟨_,rfl⟩;rw [e2] at c I x Y;dsimp only at c I x Y;obtain ⟨k,hk⟩:∃k:Nat,min z.toNat 16=k:=⟨_,rfl⟩;rw [hk] at c;have ak:min z 16=(k:Int):=by omega
   have al:(if (16:Int)<z then 16 else z)=(k:Int):=by split<;>omega
   have J:=hid J;have I:=hid I
   have ap:Hid ((acc++[(((k:Nat):Int),((a:Int),(b:Int)))]++(ZT f ((z - 16).toNat) L2 o2).1,(ZT f ((z - 16).toNat) L2 o2).2)=B):=hid (by
    rw [<- c,show (z - 16).toNat=z.toNat - 16 by omega];simp only [Xl,Xa8])
   have am:=hid V;have au:L2.length<=1099511627776:=by omega
   have av:IntKind.i64.wrap (z - 16)=z - 16:=by rw [IntKind.wrap_i64];omega
   clear e1 e2 c V HF v hk D x hL;go_wp2_with fail;refine J.out.mono ?_;rintro e w2 ⟨rfl,h2,k2⟩;have aF:=k2.size;have T:=hid (I.out w2 h2);obtain ⟨v0,aa,ab⟩:=h2;obtain ⟨p0,c0,rfl,_⟩:=ab.shape;have f0:w2.cell? ⟨g,0,none⟩=some (.slice p0 y.length c0):=by rw [cell_of_row w2 g 0 _ _ _ aa];rfl
   rw [am.out] at f0;have F:=hid (HO.out.keep k2 (fun _ _ h=>h.elim) (fun b hb e=>by have:=(HO.out.cells hb).1;omega));have U:=hid (HK.out.trans k2);clear aa ab k2 J I HO HK;go_wp2_with fail;refine T.out.mono ?_;rintro e w3 ⟨rfl,h3,k3⟩;have az:=k3.size;have o3:=F.out.keep k3 (fun _ _ h=>h.elim) (fun b hb e=>by have:=(F.out.cells hb).1;omega);have ag:=U.out.trans k3;obtain ⟨w4,t⟩:=Xn (w3.alloc (.cells #[.int .i64 (k:Int),.int .i64 (a:Int),.int .i64 (b:Int)] 234));have p:Below w3.heap.size w3 w4:=by rw [<- t];exact (Below.refl _ _).alloc (Xc _) _
   have ax:=p.size;have E:=hid (o3.keep (Za (fun _=>True) p) (fun _ _ h=>h.elim) (fun _ _=>trivial));have u:=Zby (C:=ZkD) (S:=fun _=>False) (w:=w3) (vs:=[.int .i64 (k:Int),.int .i64 (a:Int),.int .i64 (b:Int)]) (d:=((k:Int),((a:Int),(b:Int)))) 234 (Ztw.2 rfl);rw [t] at u;have ah:=hid u;have M:=hid (h3.below p);have N:=hid (ag.trans (Za _ p));have ar:=hid t;have O:Hid (acc.length+1<=4096):=hid (by omega);clear t p u h3 k3 o3 ag F U T f0;go_wp2_with (at_builtin;go_loud (rw [ar.out];refine Zf ZCO rfl _ _ rfl w.heap.size (.slice pl acc.length cl) acc rfl E.out (fun _ _ h=>h.elim) _ [((k:Int),((a:Int),(b:Int)))] rfl ah.out (by unfold maxLen;have:=O.out;simp;omega) (by have:=O.out;simp;omega) (by omega) ?_;intro v7 w7 A aj G;obtain ⟨p7,c7,rfl,_⟩:=A.any.shape;have af:=hid A;have j:∀b,(Value.slice pl acc.length cl).ownBlock=some b->w.heap.size<=b:=fun b hb=>(E.out.cells hb).1;have an:=hid (M.out.keep G (fun e=>by have:=j _ e;omega) (fun b _ hs e=>by have:=j _ e;have:=ao.out b hs;omega));have aq:=hid (N.out.andThen G fun i hi _ e=>by have:=j _ e;omega);clear A aj G E ah M N j))
   rw [show (acc++[((k:Int),((a:Int),(b:Int)))]).length=acc.length+1 by simp] at af;go_roundw
   case rel=>exact ⟨z - 16,acc++[((k:Int),((a:Int),(b:Int)))],L2,o2,f,rfl,by omega,by omega,by omega,by simp;omega,au,ap,an,af,aq⟩
   case measure=>simp [intOf];omega
  ·have q1:decide (z>0)=false:=Xf;have q2:decide (0<z)=false:=Xf;have c:=HF.out;rw [show z.toNat=0 by omega,Zsd,XI] at c;subst c;clear HF hz;go_wp2_with fail;go_ret;exact ⟨_,rfl,HO.out,v.out,HK.out⟩
open EM (Fld Ev)
open EV (Z8 ZA Zim Zch IsF ZcG)
variable {B b:Nat} {w:World} {S:Nat->Prop} {v:Value}
theorem Zup {f:Nat} {a:Int} {l:Xu} {o:Bool}:Zaf (f+1) a l o =
  let k:=Ze 1099511627776 l o
  let e:=evS k.2.1 k.2.2
  let r:=Zaf f (a+(1+(k.1:Int))) e.2.1 e.2.2
  ((a+(1+(k.1:Int)),e.1)::r.1,r.2):=rfl
theorem Zgj (h:IsF w b):Apt 59 B w b:=.inr fun c fr a=>by
 obtain ⟨c2,f2,d⟩:=h;rw [d] at a;simp only [Xv,Obj.cells.injEq] at a;exact absurd a.2.1 (by decide)
theorem Zgk {es:List Zo} (h:Zz ZA 59 B S w v es) (d:IsF w b):v.ownBlock≠some b:=fun e=>by
 obtain ⟨_,_,c1,f1,a⟩:=h.cells e;obtain ⟨c2,f2,c⟩:=d;rw [c] at a;simp only [Xv,Obj.cells.injEq] at a;exact absurd a.2.1 (by decide)
def Zaa (B:Nat) (w:World) (v:Value) (a:List Zo):Prop:=∃S:Nat->Prop,(∀b,S b->B<=b/\IsF w b)/\Zz ZA 59 B S w v a
theorem Zaa.nil_ (B:Nat) (w:World):Zaa B w (.slice none 0 0) []:=⟨fun _=>False,fun _ h=>h.elim,Zz.nil_ _ _ _ _⟩
theorem Zaa.keep {T:Nat->Prop} {w':World} {j:List Zo} (h:Zaa B w v j) (k:Kep T w w') (d:∀b,B<=b->b<w.heap.size->T b):Zaa B w' v j:=by
 obtain ⟨S,c,f⟩:=h;exact ⟨S,fun b a=>⟨(c b a).1,(c b a).2.keep k (d b (c b a).1 (c b a).2.lt)⟩,f.keep k (fun b e a=>d b (c b a).1 e) (fun g i=>d g (f.cells i).1 (f.cells i).2.1)⟩
theorem Zaa.cells {d:List Zo} (h:Zaa B w v d) {g:Nat} (a:v.ownBlock=some g):B<=g/\g<w.heap.size:=by
 obtain ⟨S,h1,c⟩:=h;exact ⟨(c.cells a).1,(c.cells a).2.1⟩
theorem Zaa.any {a:List Zo} (h:Zaa B w v a):ZN ZA w v a:=by
 obtain ⟨S,h1,c⟩:=h;exact c.any
theorem Zaa.base {B':Nat} {i:List Zo} (h:Zaa B w v i) (j:B'<=B):Zaa B' w v i:=by
 obtain ⟨S,k,c,e,o⟩:=h;refine ⟨S,fun b f=>⟨Xx j (k b f).1,(k b f).2⟩,c,⟨e.1,?_⟩,o⟩;rcases e.2 with m|⟨g,d,a,n,l,rest⟩
 ·exact .inl m
 ·exact .inr ⟨g,d,a,n,Xx j l,rest⟩
def Zk8 (S:Nat->Prop) (g:Nat) (s:List Zo×Xu×Bool) (w:World) (e:Ending) (w':World):Prop :=
 ∃u,e=.returned u/\Zaa w.heap.size w' u s.1/\Rd S w' g s.2.1 s.2.2/\Kep (fun b=>b≠g) w w'
def Zru (S:Nat->Prop) (q:Nat) (v:Value) (w:World):Prop:=∀b,S b->b<w.heap.size/\b≠q/\v.ownBlock≠some b
theorem ZAG {es:List Zo} (h:Zz ZA 59 B S w v es) (d:IsU w b):v.ownBlock≠some b:=fun e=>by
 obtain ⟨_,_,c1,f1,a⟩:=h.cells e;obtain ⟨c2,f2,c⟩:=d;rw [c] at a;simp only [Xv,Obj.cells.injEq] at a;exact absurd a.2.1 (by decide)
theorem Zua (S:Nat->Prop) (g n r:Nat) (t a:Int) (l:Xu) (o:Bool) (w:World) (h:Rd S w g l o) (hg:¬S g) (hS:∀b,S b->b<w.heap.size) (hl:l.length<=1000000000000) (hn:n<=16) (bZ:r<=1000000000000) (h0:0<=a) (h9:a<=1099511627776) (b2:0<=t) (b8:t<=1099511627776) :
  Calls prog 158 #[.pointer (some ⟨g,0,none⟩),.agg #[.int .i64 n,.int .i64 t,.int .i64 r],.int .i64 a] w (Zk8 S g (Za7 ((n:Int),(t,(r:Int))) a l o) w):=by
 have a7:prog.follows .mixedOrders=true:=by kernel_rfl
 obtain ⟨R,hR⟩:=Xn w.heap.size;have b3:g<R:=by rw [<- hR];exact h.lt
 obtain ⟨wa,aa⟩:=Xn (w.alloc (.cells #[.int .i64 (n:Int),.int .i64 t,.int .i64 (r:Int)] 234));have an:Below w.heap.size w wa:=by rw [<- aa];exact (Below.refl _ _).alloc (Xc _) _
 have bP:wa.heap.size=R+1:=by rw [<- aa,<- hR];simp
 have XA:Hid (Three wa R 234 (.int .i64 (n:Int)) (.int .i64 t) (.int .i64 (r:Int))):=hid (by rw [<- aa,<- hR];exact ZaE w 234 _ _ _);have aW:=hid (h.below an);have aA:=hid an;have aw:=hid aa;have aV:=hid hS;obtain ⟨vr,aU,a4⟩:=h.below an;obtain ⟨pr,X,rfl,bI,bN⟩:=a4.shape;have f0:wa.cell? ⟨g,0,none⟩=some (.slice pr l.length X):=by rw [cell_of_row wa g 0 _ _ _ aU];rfl
 obtain ⟨x0,x1,x2⟩:=XA.out.cells;rw [<- aa] at f0 x0 x1 x2;obtain ⟨V,bp⟩:=Xn l.length;have cb:=hid bp;rw [bp] at f0 hl bI;unfold maxLen at bN;have bu:=hid (fun W o' (h:Rd S W g (l.drop r) o')=>Zbq S S g (l.drop r) [] o' (.slice none 0 0) 120 W h hg (BOn.nil_ _ _))
 by_cases ao:V<r
 ·have q1:decide ((r:Int)>(V:Int))=true:=Xt;have q2:decide (V<r)=true:=Xw ao;have aq:Za7 ((n:Int),(t,(r:Int))) a l o=([],[],true):=by unfold Za7;rw [Xe (by dsimp only;omega)]
  rw [aq];have bj:=hid (fun W (h:Rd S W g l o)=>Zbq S S g l [] o (.slice none 0 0) 120 W h hg (BOn.nil_ _ _));clear aq ao a4 aU h an aa;go_enter func158,ntmps158;go_wp2_with fail;go_quiet (fail)
  go_wp2_with fail;rw [aw.out];have f:Below wa.heap.size wa (wa.drewN nq):=MM.below_drewN (Below.refl _ _) nq;refine (bj.out _ (aW.out.below f)).mono ?_;rintro e w1 ⟨rfl,h1,k1⟩;have bA:Rd S w1 g [] true:=by have:=h1;simpa using this
  have HQ:Hid (Zk8 S g ([],[],true) w (.returned (.slice none 0 0)) w1):=hid ⟨_,rfl,Zaa.nil_ _ _,bA,((Za _ aA.out).trans (Za _ f)).trans k1⟩;clear h1 bA k1 f;go_wp2_with fail;go_ret;exact HQ.out
 ·have q1:decide ((r:Int)>(V:Int))=false:=Xf;have q2:decide (V<r)=false:=XB ao;have q3:(r:Int)<=(X:Int):=by omega
  have a9:¬((l.length:Int)<(r:Int)):=by omega
  have aq:Za7 ((n:Int),(t,(r:Int))) a l o=if (Zaf n a (l.take r) false).2.2.2=true\/(Zaf n a (l.take r) false).2.2.1≠[]\/(Zaf n a (l.take r) false).2.1≠t then ((Zaf n a (l.take r) false).1,[],true) else ((Zaf n a (l.take r) false).1,l.drop r,o):=by
   unfold Za7;dsimp only;rw [Xa a9,XT,XT]
  rw [aq];clear aq;obtain ⟨N,hF⟩:=Xn (Zaf n a (l.take r) false);rw [hF];have bs:Hid ((([]:List Zo)++(Zaf n a (l.take r) false).1,(Zaf n a (l.take r) false).2)=N):=hid (by rw [<- hF];rfl);obtain ⟨ca,ak⟩:=Xn ((if N.2.2.2=true\/N.2.2.1≠[]\/N.2.1≠t then (N.1,[],true) else (N.1,l.drop r,o)));rw [ak];have aJ:=hid ak;clear a4 aU h an aa a9 hF ak;go_enter func158,ntmps158;go_wp2_with fail;go_quiet (fail)
  go_wp2_with fail;refine RS.ZaF (T:=fun _=>True) [(0,true),(1,true),(2,true),(3,true),(4,true),(5,true),(6,true),(7,true),(8,false)] a7 (by kernel_rfl) (fun _ _ d _ _ h=>by cases d<;>exact h) ?_;simp only [RS.Zy,XF,XV,XZ,X4,XX];rw [aw.out];obtain ⟨wd,aB⟩:=Xn ((wa.drewN nq).drew);have f:Below wa.heap.size wa wd:=by rw [<- aB];exact (MM.below_drewN (Below.refl _ _) nq).drew
  have bE:wd.heap.size=R+1:=by rw [<- aB];exact bP
  have XD:=hid (XA.out.below f XA.out.lt);have RD:=hid (aW.out.below f);have KD:Hid (Below w.heap.size w wd):=hid (aA.out.trans (f.mono aA.out.size));have c0:wd.cell? ⟨g,0,none⟩=some (.slice pr V X):=(f.cell (p:=⟨g,0,none⟩) (show g<wa.heap.size by omega)).trans (by rw [<- aw.out];exact f0);have G:=hid (fun W (hW:Kep (fun _=>True) wd W)=>(show W.cell? ⟨g,0,none⟩=some (.slice pr V X)/\W.cell? ⟨R,2,none⟩=some (.int .i64 (r:Int)) from ⟨(hW.cell (by omega) trivial 0).trans c0,(XD.out.keep hW trivial).c2⟩));rw [aB];clear aB f c0 f0 x0 x1 x2 XA aW aA aw;repeat (refine RS.take (by rfl) (by intro W hW;obtain ⟨f1,f2⟩:=G.out W hW;go_simp;with_reducible rfl) ?_;simp only [Act.put,Xr,Xs,Xq])
  refine RS.alone (by rfl) (fun K hK => ?_);go_simp;refine hK.out _ _ (Zr _ _ _) ?_;clear hK K;refine RS.done ?_;simp only [Xh,Xm,XaW,Xap,XL,Nat.reduceAdd];obtain ⟨q,hq⟩:=Xn (R+1);obtain ⟨wq,ad⟩:=Xn (wd.alloc (.cells #[.slice pr r X,.bool false] 230));have ae:Below wd.heap.size wd wq:=by rw [<- ad];exact (Below.refl _ _).alloc (Xc _) _
  have b4:wq.heap.size=q+1:=by rw [<- ad];simp [bE,hq]
  have XQ:=hid (XD.out.below ae XD.out.lt);have RQ:=hid (RD.out.below ae);have KQ:Hid (Below w.heap.size w wq):=hid (KD.out.trans (ae.mono (by omega)))
  have bw:Hid (Rd S wq q (l.take r) false):=hid (by
   obtain ⟨v9,aj,ap⟩:=RD.out;have e9:=cell_of_row wd g 0 _ _ _ aj;rw [(G.out wd (Kep.refl _ _)).1] at e9;have e9:(Value.slice pr V X)=v9:=by simpa using e9
   refine ⟨.slice pr r X,by rw [<- ad,<- hq,<- bE];exact heap_alloc_new _ _,?_⟩;rw [<- e9] at ap;exact (ap.take r (by omega)).below ae)
  have C0:Hid (wq.cell? ⟨g,0,none⟩=some (.slice pr V X)):=hid ((ae.cell (p:=⟨g,0,none⟩) (show g<wd.heap.size by omega)).trans (G.out wd (Kep.refl _ _)).1);have bq:Hid (Zru S q (.slice none 0 0) wq):=hid (fun b D=>⟨by have:=aV.out b D;omega,by have:=aV.out b D;omega,fun e=>by cases e⟩);have bm:=hid (Zaa.nil_ (q+1) wq);have bz:Hid (Kep (fun b=>b≠q) wq wq):=hid (Kep.refl _ _);have aK:Hid ((l.take r).length<=1000000000000):=hid (by rw [Xi];omega);obtain ⟨y0,y1,y2⟩:=XQ.out.cells;rw [<- ad] at y0 y1 y2;have bU:=hid ad;obtain ⟨k0,k1,k2,k3,k4,k5⟩:=(ZdP wd 230 (.slice none 0 0) (.bool false)).all (.slice pr r X);clear ad ae XD RD KD G;go_wp2_with fail;rw [bU.out,hq];clear k0 k1 k2 k3 k4 k5 y0 y1 y2
  go_loopw [2,8,29] (fun av dv iv wr=>∃(i:Nat) (A:Int) (acc:List Zo) (L:Xu) (oi:Bool) (S':Nat->Prop),iv=.int .i64 i/\av=.int .i64 A/\i<=n/\Hid (acc.length=i)/\0<=A/\A<=1099511627777*((i:Int)+1)/\Hid (L.length<=1000000000000)/\Hid ((acc++(Zaf (n - i) A L oi).1,(Zaf (n - i) A L oi).2)=N)/\Hid (Rd S' wr q L oi)/\Hid (Zru S' q dv wr)/\Hid (Zaa (q+1) wr dv acc)/\Hid (Kep (fun b=>b≠q) wq wr)) (fun _ _ iv _=>n - (intOf iv).toNat)
  case atStart=>exact ⟨0,a,[],l.take r,false,S,rfl,rfl,by omega,hid rfl,h0,by omega,aK,bs,bw,bq,bm,bz⟩
  case round =>
   obtain ⟨i,A,acc,L,oi,S',rfl,rfl,hi,au,b1,b7,HL,HF,az,a1,ab,HK⟩:=hrel;clear bs bw bq bm bz aK;have bY:=HK.out.size;obtain ⟨pd,cd,rfl,_⟩:=ab.out.any.shape
   by_cases ax:i<n
   ·have t1:decide ((i:Int)<(n:Int))=true:=Xt;have t2:decide (i<n)=true:=Xw ax;have m:=HF.out;rw [show n - i=(n - (i+1))+1 by omega,Zup] at m;dsimp only at m;have bO:¬S' q:=fun h=>(a1.out q h).2.1 rfl;have C1:=ZaT S' q 1099511627776 L oi wr (by omega) az.out bO;have aY:=Zcn 1099511627776 L oi;have bi:=ZbW 1099511627776 L oi;obtain ⟨⟨k,L1,o1⟩,e1⟩:∃s,Ze 1099511627776 L oi=s:=⟨_,rfl⟩;rw [e1] at m C1 aY bi;dsimp only at m C1 aY bi;have be:L1.length<=1000000000000:=by have:=HL.out;omega
    have C2:=fun W (h:Rd S' W q L1 o1)=>ZjW S' q L1 o1 W be h;have aR:=ZAp L1 o1;obtain ⟨z,fs,L2,o2,e2⟩:∃z fs L2 o2,evS L1 o1=((z,fs),L2,o2):=⟨_,_,_,_,rfl⟩;rw [e2] at m C2 aR;dsimp only at m aR;obtain ⟨A',bK⟩:=Xn (A+(1+(k:Int)));rw [bK] at m;have cc:IntKind.i64.wrap (1+(k:Int))=1+(k:Int):=by rw [IntKind.wrap_i64];omega
    have b5:IntKind.i64.wrap (A+(1+(k:Int)))=A':=by rw [IntKind.wrap_i64];omega
    have bJ:0<=A':=by omega
    have bV:A'<=1099511627777*(((i+1:Nat):Int)+1):=by omega
    have C1:=hid C1;have C2:=hid C2
    have bL:Hid ((acc++[(A',((z,fs):Ev))]++(Zaf (n - (i+1)) A' L2 o2).1,(Zaf (n - (i+1)) A' L2 o2).2)=N):=hid (by
     rw [<- m];simp only [Xl,Xa8])
    have bT:Hid (L2.length<=1000000000000):=hid (by omega);have bF:=hid ax;clear e1 e2 m HF az aY aR HL be ax;go_wp2_with fail;refine C1.out.mono ?_;rintro e w2 ⟨rfl,h2,k2⟩;have cf:=k2.size;have bb:=hid (C2.out w2 h2);have bf:=hid (ab.out.keep k2 (fun b D _=>by omega));have bc:=hid (HK.out.trans k2);have aH:∀b,(Value.slice pd acc.length cd).ownBlock=some b->q+1<=b/\b<wr.heap.size:=fun b D=>ab.out.cells D;have U:=hid aH;clear h2 k2 C1 C2 ab HK aH;go_wp2_with fail;refine bb.out.mono ?_;rintro e w3 ⟨u,rfl,hu,aP,k3⟩;dsimp only at hu aP ⊢;obtain ⟨pe,ce,rfl,_⟩:=hu.shape;have b0:=k3.size;have d3:=bf.out.keep k3 (fun b D _=>by omega);obtain ⟨w4,aF⟩:=Xn (w3.alloc (.cells #[.int .i64 A',.int .i64 z,.slice pe fs.length ce] 59));have Z:Below w3.heap.size w3 w4:=by rw [<- aF];exact (Below.refl _ _).alloc (Xc _) _
    have bX:=Z.size;obtain ⟨S1,bh,aG⟩:=d3;have aG:=aG.weak (T:=fun b=>S1 b\/ZcG w2 w3 b) fun b _ D=>.inl D;have aL:Hid (∀b,(S1 b\/ZcG w2 w3 b)->q+1<=b/\IsF w3 b):=hid (fun b D=>D.elim (bh b) fun h=>⟨by have:=h.1;omega,h.2⟩);have aO:=Zby (C:=ZA) (S:=fun b=>S1 b\/ZcG w2 w3 b) (w:=w3) (vs:=[.int .i64 A',.int .i64 z,.slice pe fs.length ce]) (d:=(A',((z,fs):Ev))) 59 (Zch.2 ⟨_,rfl,hu.weak fun b _ h=>.inr h⟩);rw [aF] at aO;have bC:=hid aO;have aZ:=hid (aG.keep (Za (fun _=>True) Z) (fun _ _ _=>trivial) (fun _ _=>trivial));have ai:Hid (∀b,(S1 b\/ZcG w2 w3 b)->q+1<=b/\IsF w4 b):=hid (fun b D=>⟨(aL.out b D).1,(aL.out b D).2.keep (Za (fun _=>True) Z) trivial⟩);have bD:=aP.below Z;have a6:Hid (Rd (fun b=>w2.heap.size<=b/\IsU w4 b) w4 q L2 o2):=hid (bD.weak fun b _ D=>⟨D.1,D.2.keep (Za (fun _=>True) Z) trivial⟩);have a8:=hid ((bc.out.trans k3).trans (Za _ Z));have bQ:=hid aF;clear aF Z aO aP bD k3 aG bh aL bf bc bb hu a1;go_wp2_with (at_builtin;go_loud (rw [bQ.out];refine Zf Zim rfl _ _ rfl (q+1) (.slice pd acc.length cd) acc rfl aZ.out (fun b _ D=>Zgj (ai.out b D).2) _ [(A',((z,fs):Ev))] rfl bC.out (by unfold maxLen;have:=au.out;simp;omega) (by have:=au.out;simp;omega) (by omega) ?_;intro v7 w7 aD bG ag;have bW:=ag.size;have bo:∀b,(S1 b\/ZcG w2 w3 b)->q+1<=b/\IsF w7 b:=fun b D=>⟨(ai.out b D).1,(ai.out b D).2.keep ag (Zgk aZ.out (ai.out b D).2)⟩;have bn:Hid (Zaa (q+1) w7 v7 (acc++[(A',((z,fs):Ev))])):=hid ⟨_,bo,aD⟩;have bH:=hid (a6.out.keep ag (fun e=>by have:=U.out _ e;omega) (fun b _ hs e=>by have:=U.out _ e;have:=hs.1;omega));have bg:Hid (Zru (fun b=>w2.heap.size<=b/\IsU w4 b) q v7 w7):=hid (fun b D=>⟨by have:=D.2.lt;omega,by have:=D.1;omega,ZAG aD (D.2.keep ag (fun e=>by have:=U.out _ e;have:=D.1;omega))⟩);have bM:=hid (a8.out.andThen ag fun j hj _ e=>by have:=U.out _ e;omega);obtain ⟨p7,c7,rfl,_⟩:=aD.any.shape;clear aD bG ag aZ bC a6 a8 ai bo U))
    rw [show (acc++[(A',((z,fs):Ev))]).length=acc.length+1 by simp] at bg bn;have ax:=bF.out;go_roundw
    case rel=>exact ⟨i+1,A',acc++[(A',((z,fs):Ev))],L2,o2,_,by go_num,rfl,by omega,hid (by have:=au.out;simp;omega),bJ,bV,bT,bL,bH,bg,bn,bM⟩
    case measure=>simp [intOf];omega
   ·obtain rfl:i=n:=by omega
    have t1:decide ((i:Int)<(i:Int))=false:=by simp
    have t2:decide (i<i)=false:=by simp
    have m:=HF.out;rw [Xas] at m;have m:(acc,(A,(L,oi)))=N:=by rw [<- m,Zaf];simp
    subst m;have c:=aJ.out;dsimp only at c;have bk:=hid c;clear c;have a5:g≠q:=by omega
    have bR:R≠q:=by omega
    have bS:=(RQ.out.keep HK.out a5 (fun b _ hs=>by have:=aV.out b hs;omega));obtain ⟨v9,aj,ap⟩:=bS;have e9:=cell_of_row wr g 0 _ _ _ aj;have cg:wr.cell? ⟨g,0,none⟩=some (.slice pr V X):=(HK.out.cell (by omega) a5 0).trans C0.out;rw [cg] at e9;obtain rfl:(Value.slice pr V X)=v9:=by simpa using e9
    have XR:=XQ.out.keep HK.out bR;have a2:=ap.drop r (by omega);obtain ⟨PX,aS⟩:=Xn ((if X=r then pr else Option.map (fun x=>x.add r) pr));obtain ⟨NX,aT⟩:=Xn (V - r);obtain ⟨CX,aN⟩:=Xn (X - r);rw [aS,aT,aN] at a2;have bl:=hid aS;have bv:=hid aT;have bd:=hid aN;have bx:=hid aj;have ah:=hid XR;have aQ:=hid a2;clear HF aJ aS aT aN aj ap XR a2 e9;go_wp2_with fail;refine RS.ZaF (T:=fun _=>True) [(0,true),(1,true),(2,true),(3,true),(4,true),(5,true),(6,true),(7,true),(8,true),(9,true)] a7 (by kernel_rfl) (fun _ _ d _ _ h=>by cases d<;>exact h) ?_;simp only [RS.Zy,XF,XV,XZ,X4,XX];obtain ⟨I,O⟩:=Xn wr.drew;have f:Below wr.heap.size wr I:=by rw [<- O];exact (Below.refl _ _).drew
    have G:=hid (fun W (hW:Kep (fun _=>True) I W)=>(show W.cell? ⟨g,0,none⟩=some (.slice pr V X)/\W.cell? ⟨R,2,none⟩=some (.int .i64 (r:Int)) from ⟨(hW.cell (by rw [<- O];show g<wr.heap.size;omega) trivial 0).trans ((f.cell (p:=⟨g,0,none⟩) (show g<wr.heap.size by omega)).trans cg),((ah.out.below f ah.out.lt).keep hW trivial).c2⟩));have br:=hid f;have aX:wr.heap.size=I.heap.size:=by rw [<- O];rfl
    rw [O];have z1:(r:Int)<=(V:Int):=by omega
    have z2:(V:Int)<=(X:Int):=by omega
    clear O f cg;repeat (refine RS.take (by rfl) (by intro W hW;obtain ⟨f1,f2⟩:=G.out W hW;go_simp;with_reducible rfl) ?_;simp only [Act.put,Xr,Xs,Xq])
    refine RS.done ?_;simp only [Xh,Xm,XaW,Xap,XL,Nat.reduceAdd];rw [bl.out,bv.out,bd.out];have f:=br.out;have aC:I.heap[g]? = some (.cells #[.slice pr V X,.bool o] 230 (0,0)):=(f.block g (by omega)).trans bx.out;obtain ⟨L2,bB⟩:=Xn (l.drop r);rw [bB] at aQ bu;have aI:BOn S I (.slice PX NX CX) L2:=aQ.out.below f;have b9:=frozen_of_row I g 0 _ _ aC;have b6:I.cell? ⟨g,0,none⟩=some (.slice pr V X):=by rw [cell_of_row I g 0 _ _ _ aC];rfl
    obtain ⟨w9,ar⟩:=Xn (I.setCell ⟨g,0,none⟩ (.slice PX NX CX));have am:Kep (fun b=>b≠g) I w9:=by rw [<- ar];exact ZbE _
    have a0:Rd S w9 g L2 o:=by rw [<- ar];exact ⟨_,heap_setCell_same I g 0 _ _ _ aC,aI.keep (Zx hg _) fun _ _ h=>h⟩
    have x9:=(ah.out.below f ah.out.lt).keep am (by omega);obtain ⟨vi,ay,ba⟩:=az.out;obtain ⟨pi,ci,rfl,_⟩:=ba.shape;have al:=(am.block q (by rw [<- aX];exact (Xo.1 ay).1) (fun e=>a5 e.symm)).trans ((f.block q (Xo.1 ay).1).trans ay);have a3:Zaa (q+1) w9 (.slice pd acc.length cd) acc:=(ab.out.keep (Za (fun _=>True) f) (fun _ _ _=>trivial)).keep am (fun b D _=>by omega);have k9:Kep (fun b=>b≠g) w w9:=(((Za _ KQ.out).andThen HK.out fun j hj _=>by omega).trans (Za _ f)).trans am;have i0:w9.cell? ⟨q,0,none⟩=some (.slice pi L.length ci):=by rw [cell_of_row w9 q 0 _ _ _ al];rfl
    have i1:w9.cell? ⟨q,1,none⟩=some (.bool oi):=by rw [cell_of_row w9 q 1 _ _ _ al];rfl
    have i2:=x9.c1;obtain ⟨NI,aM⟩:=Xn L.length;rw [aM] at i0;have Y:=hid (bu.out w9 o a0);have y:Hid (∀M,Rd S M g [] (o||((120:Int) != 0))->Kep (fun b=>b≠g) w9 M->Zk8 S g (acc,[],true) w (.returned (.slice pd acc.length cd)) M):=hid (fun M J H=>⟨_,rfl,(a3.keep H (fun b D _=>by omega)).base (by omega),by simpa using J,k9.trans H⟩);have F:Hid (Zk8 S g (acc,L2,o) w (.returned (.slice pd acc.length cd)) w9):=hid ⟨_,rfl,a3.base (by omega),a0,k9⟩;have ac:Hid (L≠[]↔0<NI):=hid (by rw [<- aM,Xac]);rw [<- ar] at i0 i1 i2;have aE:=hid ar;have c:=bk.out;rw [bB] at c;have E:=hid c;clear c bk a3 k9 a0 x9 am ar aI aC al ay ba aM br bx ah aQ f bl bv bd ab az HK a1 HL G C0 XQ RQ KQ;cases oi with
    | true =>
      have c:=E.out;rw [Xe (.inl rfl)] at c;subst c;clear E F ac;go_wp2_with fail;rw [aE.out];refine Y.out.mono ?_;rintro e M ⟨rfl,J,H⟩;have HQ:=hid (y.out M J H);clear J H Y y;go_wp2_with fail;go_ret;exact HQ.out
    | false =>
      by_cases bt:0<NI
      ·have u1:decide ((NI:Int)>0)=true:=Xt;have c:=E.out;rw [Xe (.inr (.inl (ac.out.2 bt)))] at c;subst c;clear E F ac;go_wp2_with fail;rw [aE.out];refine Y.out.mono ?_;rintro e M ⟨rfl,J,H⟩;have HQ:=hid (y.out M J H);clear J H Y y;go_wp2_with fail;go_ret;exact HQ.out
      ·have u1:decide ((NI:Int)>0)=false:=Xf;have u2:decide (0<NI)=false:=Xf
       by_cases af:A=t
       ·have u3:(A != t)=false:=by simp [af]
        have c:=E.out;rw [Xa (fun h=>h.elim (fun h=>by cases h) fun h=>h.elim (fun h=>bt (ac.out.1 h)) fun h=>h af)] at c;subst c;clear E y ac af Y;go_wp2_with fail;rw [aE.out];go_ret;exact F.out
       ·have u3:(A != t)=true:=by rw [Xaa];exact af
        have c:=E.out;rw [Xe (.inr (.inr af))] at c;subst c;clear E F ac af;go_wp2_with fail;rw [aE.out];refine Y.out.mono ?_;rintro e M ⟨rfl,J,H⟩;have HQ:=hid (y.out M J H);clear J H Y y;go_wp2_with fail;go_ret;exact HQ.out
end SR
namespace SG
open RowKit MM
open EM (Fld)
open EV (ZA Z8 Zim ZuH Zad ZeR Zgd Zch IsF)
open SR (Zaa Zgj Zgk)
open SM (Zo)
open GM (Ziq Zgb ZkA ZfK)
variable {k:Nat}
theorem ZuB {fs:List Fld} (a:k<fs.length):(fs.take (k+1)).map (fun f=>(f.1,f.2.take 300))=(fs.take k).map (fun f=>(f.1,f.2.take 300))++[(fs[k].1,fs[k].2.take 300)]:=by
 rw [XG a,XN];rfl
theorem ZuA {l:List Zo} (a:k<l.length):(l.take (k+1)).map Zgb=(l.take k).map Zgb++[Zgb l[k]]:=by
 rw [XG a,XN];rfl
def Zta (l:List Zo) (w:World) (e:Ending) (w':World):Prop:=∃u,e=.returned u/\Zaa w.heap.size w' u l/\Below w.heap.size w w'
abbrev ZB1 (B:Nat) (w:World) (v:Value) (fs:List Fld):Prop:=Zz Z8 123 B (fun _=>False) w v fs
theorem Zuz (v:Value) (l:List Zo) (w:World) (hv:ZN ZA w v l):Calls prog 37 #[v] w (Zta (ZkA l) w):=by
 obtain ⟨p,a4,rfl,a6,aX,_⟩:=hv.shape;unfold maxLen at aX;have HV:=hid hv.bel;have ak:Hid (Zaa w.heap.size w (.slice none 0 0) ((l.take 0).map Zgb)):=hid (Zaa.nil_ _ _);clear hv;go_enter func37,ntmps37;go_wp2_with fail
 go_loopw [3,4] (fun ov iv wr=>∃i:Nat,i<=l.length/\i<=40/\iv=.int .i64 i/\Hid (Zaa w.heap.size wr ov ((l.take i).map Zgb))/\Hid (Below w.heap.size w wr)) (fun _ iv _=>40 - (intOf iv).toNat)
 case atStart=>exact ⟨0,by omega,by omega,by go_simp,ak,hid (Below.refl _ _)⟩
 case round =>
  obtain ⟨i,hi,a2,rfl,HO,HB⟩:=hrel;obtain ⟨D,aU⟩:∃D,D=wr:=⟨_,rfl⟩;subst aU;clear ak
  by_cases aY:i<l.length/\i<40
  ·obtain ⟨H,h4⟩:=aY;have t1:decide ((i:Int)<(l.length:Int))=true:=Xt;have t2:decide ((i:Int)<40)=true:=Xt;have t3:(i:Int)<(l.length:Int):=by omega
   obtain ⟨b,off,vf,rfl,ad,_,c1,c2,c3,hf⟩:=Zad (HV.out.below HB.out) H;have o:=ZuA H;obtain ⟨⟨F,t,fs⟩,hd⟩:∃d,l[i]=d:=⟨_,rfl⟩;rw [hd] at c1 c2 hf o;change D.cell? ⟨b,off+i*3,none⟩=some (.int .i64 F) at c1;change D.cell? ⟨b,off+i*3+1,none⟩=some (.int .i64 t) at c2;change ZD Z8 _ D vf fs at hf;obtain ⟨pf,cf,rfl,a8,_⟩:=hf.shape;obtain ⟨R,hR⟩:=Xn D.heap.size;have V:=hid o;have HF:=hid hf;have aO:=hid H;have HR:=hid hR;have HC:=hid (And.intro c1 (And.intro c2 c3));have aM:=hid ad;clear o hf hd;go_wp2_with fail;obtain ⟨wa,U⟩:=Xn (D.alloc (.cells #[.int .i64 F,.int .i64 t,.slice none 0 0] 59));have az:Below D.heap.size D wa:=by rw [<- U];exact (Below.refl _ _).alloc (Xc _) _
   have an:Three wa R 59 (.int .i64 F) (.int .i64 t) (.slice none 0 0):=by rw [<- U,<- hR];exact ZaE _ _ _ _ _
   have au:=hid an;have ao:=hid az;rw [U];clear U az an c1 c2 c3;have ay:Hid (ZB1 (R+1) wa (.slice none 0 0) ((fs.take 0).map fun f=>(f.1,f.2.take 300))):=hid (Zz.nil_ _ _ _ _)
   go_loopw [6] (fun kv m=>∃(k:Nat) (uv:Value),k<=fs.length/\k<=8/\kv=.int .i64 k/\Hid (Three m R 59 (.int .i64 F) (.int .i64 t) uv)/\Hid (ZB1 (R+1) m uv ((fs.take k).map fun f=>(f.1,f.2.take 300)))/\Hid (Below D.heap.size D m)) (fun kv _=>8 - (intOf kv).toNat)
   case atStart=>exact ⟨0,_,by omega,by omega,by go_simp,au,ay,ao⟩
   case round =>
    obtain ⟨m,aR⟩:∃m,m=wr:=⟨_,rfl⟩;subst aR;obtain ⟨k,uv,hk,ba,rfl,HT,HU,C⟩:=hrel;clear au ay ao;have ad:=aM.out;have aG:=HB.out.size;have aZ:b<D.heap.size:=ad;have c3:m.cell? ⟨b,off+i*3+2,none⟩=some (.slice pf fs.length cf):=(C.out.cell (p:=⟨b,off+i*3+2,none⟩) aZ).trans HC.out.2.2
    by_cases aP:k<fs.length/\k<8
    ·obtain ⟨aJ,a7⟩:=aP;have s1:decide ((k:Int)<(fs.length:Int))=true:=Xt;have s2:decide ((k:Int)<8)=true:=Xt;have s3:(k:Int)<(fs.length:Int):=by omega
     obtain ⟨bf,of,rfl,a9,_,d1,d2⟩:=ZeR (HF.out.any.below C.out) aJ;have o:=ZuB aJ;obtain ⟨⟨x,y⟩,aF⟩:∃f,fs[k]=f:=⟨_,rfl⟩;rw [aF] at d1 d2 o;dsimp only at d1 d2 o;have e1:(min (y.length:Int) 300).toNat=min y.length 300:=by omega
     have i1:(min (y.length:Int) 300)<=(y.length:Int):=by omega
     have i2:(0:Int)<=min (y.length:Int) 300:=by omega
     have HE:Hid ((⟨y.toArray⟩:ByteArray).extract 0 (min (y.length:Int) 300).toNat=⟨(y.take 300).toArray⟩):=hid (by
      rw [Zkk,Xap,Nat.sub_zero,e1]
      by_cases h:y.length<=300
      ·rw [Xao h,XC,XM h]
      ·rw [Xa3 (by omega)])
     have al:=hid o;clear o aF e1;obtain ⟨f0,f1,f2⟩:=HT.out.cells;obtain ⟨pu,cu,N,_⟩:=HU.out.any.shape;have ah:((fs.take k).map fun f=>(f.1,f.2.take 300)).length=k:=by rw [XE,Xi];omega
     rw [ah] at N;subst N;have aB:=hid ah;have aN:Hid (((fs.take (k+1)).map fun f=>(f.1,f.2.take 300)).length=k+1):=hid (by rw [XE,Xi];omega);obtain ⟨Y,hY⟩:=Xn ((⟨y.toArray⟩:ByteArray).extract 0 (min (y.length:Int) 300).toNat);have aH:Y=⟨(y.take 300).toArray⟩:=by rw [<- hY];exact HE.out
     obtain ⟨wb,G⟩:=Xn (m.alloc (.cells #[.string ⟨x.toArray⟩,.string Y] 123));have I:Below m.heap.size m wb:=by rw [<- G];exact (Below.refl _ _).alloc (Xc _) _
     obtain ⟨g0,g1⟩:=EV.ZhR m (.string ⟨x.toArray⟩) (.string Y) 123;rw [G] at g0 g1;obtain ⟨wc,X⟩:=Xn (wb.alloc (.cells #[.string ⟨x.toArray⟩,.string Y] 123));have aA:Below wb.heap.size wb wc:=by rw [<- X];exact (Below.refl _ _).alloc (Xc _) _
     have s:Below m.heap.size m wc:=I.trans (aA.mono I.size);have aC:R<m.heap.size:=HT.out.lt;obtain ⟨f0,f1,f2⟩:=(HT.out.below I aC).cells;have aw:=hid (HT.out.below s aC);have aE:Hid (ZB1 (R+1) wc (.slice pu _ cu) _):=hid (HU.out.keep (Za (fun _=>True) s) (fun _ _ h=>h.elim) (fun _ _=>trivial))
     have HS:Hid (Zdk Z8 (fun _=>False) wc (.slice (some ⟨wb.heap.size,0,none⟩) 1 1) [(x,y.take 300)]):=hid (by
      rw [<- X];exact Zby 123 (vs:=[.string ⟨x.toArray⟩,.string Y]) (Zgd.2 (by rw [aH])))
     have aS:=hid G;have aT:=hid X;have aV:=hid hY;have av:=hid (C.out.trans (s.mono C.out.size));have a1:Hid (R+1<=wc.heap.size):=hid (by have:=s.size;omega);clear I G aA X s hY aH ah;go_wp2_with (first|(at_builtin;go_loud (refine Zf ZuH rfl _ _ rfl (R+1) (.slice pu k cu) _ rfl aE.out (fun _ _ h=>h.elim) _ [(x,y.take 300)] rfl HS.out (by rw [aB.out];unfold maxLen;simp only [Xh,Xm];omega) (by rw [aB.out];simp only [Xh,Xm];omega) a1.out ?_;intro v5 w5 a n A;rw [<- al.out] at a;obtain ⟨p5,c5,aq,_⟩:=a.any.shape;rw [aN.out] at aq;subst aq;have a5:=aw.out.below n (Nat.lt_succ_self R);have f5:=a5.fr 2;have g5:=a5.c2;have aQ:=hid (a5.s2 (.slice p5 (k+1:Nat) c5));have ac:=hid a;have u:=hid (av.out.trans (n.mono (by have:=HR.out;omega)));clear a n A a5 aE HS aw av))|(rw [aT.out])|(rw [aV.out,aS.out]))
     have ag:Kep (fun b=>b≠R) w5 (w5.setCell ⟨R,2,none⟩ (.slice p5 (k+1:Nat) c5)):=Zx (fun h=>h rfl) _;have aL:=hid (ac.out.keep ag (fun _ _ h=>h.elim) (fun g hg e=>by have:=(ac.out.cells hg).1;omega));have a0:=hid (u.out.trans (ag.below (by have:=u.out.size;omega) fun j hj e=>by have:=HR.out;omega));clear ac u ag f5 g5;go_roundw
     case rel=>exact ⟨k+1,_,by omega,by omega,by go_num,aQ,aL,a0⟩
     case measure=>simp [intOf];omega
    ·have hT:=HT.out;obtain ⟨f0,f1,f2⟩:=hT.cells
     have r:(fs.take k).map (fun f=>(f.1,f.2.take 300))=Ziq fs:=by
      unfold Ziq;rcases Nat.lt_or_ge k fs.length with h|h
      ·rw [show k=8 by omega]
      ·rw [XM h,XM (by omega:fs.length<=8)]
     have hU:=HU.out;rw [r] at hU;obtain ⟨pu,cu,N,_⟩:=hU.any.shape;subst N;obtain ⟨nf,ap⟩:=Xn ((Ziq fs).length);rw [ap] at f2 hU;have L:=C.out;have aW:R+1<=m.heap.size:=hT.lt;obtain ⟨S0,aK,E⟩:=HO.out.keep (Za (fun _=>True) L) fun _ _ _=>trivial;have aG:=HB.out.size;obtain ⟨S,hS⟩:∃S:Nat->Prop,(fun b=>S0 b\/(R+1<=b/\IsF m b))=S:=⟨_,rfl⟩
     have ae:∀b,S b->w.heap.size<=b/\IsF m b:=fun b c=>by
      rw [<- hS] at c;rcases c with c|c
      ·exact aK b c
      ·exact ⟨by have:=HR.out;omega,c.2⟩
     have aa:Zz ZA 59 w.heap.size S m u3 ((l.take i).map Zgb):=E.weak fun b _ c=>by rw [<- hS];exact .inl c
     have ab:ZD Z8 S m (.slice pu nf cu) (Ziq fs):=hU.ron (fun g hg=>by rw [<- hS];exact .inr ⟨(hU.cells hg).1,(hU.cells hg).2.2⟩) (fun _ _ h=>h.elim);obtain ⟨we,M⟩:=Xn (m.alloc (.cells #[.int .i64 F,.int .i64 t,.slice pu nf cu] 59));have W:Below m.heap.size m we:=by rw [<- M];exact (Below.refl _ _).alloc (Xc _) _
     have HS:Hid (Zdk ZA S we (.slice (some ⟨m.heap.size,0,none⟩) 1 1) [(F,(t,Ziq fs))]):=hid (by
      rw [<- M];exact Zby 59 (vs:=[.int .i64 F,.int .i64 t,.slice pu nf cu]) (Zch.2 ⟨_,rfl,ab⟩))
     have q:Hid (∀b,S b->w.heap.size<=b/\IsF we b):=hid (fun b c=>⟨(ae b c).1,(ae b c).2.keep (Za (fun _=>True) W) trivial⟩);have z:Zz ZA 59 w.heap.size S we u3 ((l.take i).map Zgb):=aa.keep (Za (fun _=>True) W) (fun _ _ _=>trivial) (fun _ _=>trivial);obtain ⟨p3,ar,aD,_⟩:=z.any.shape;have af:((l.take i).map Zgb).length=i:=by rw [XE,Xi];omega
     rw [af] at aD;subst aD;have J:=hid z;have aI:=hid M;have ai:=hid (HB.out.trans ((L.trans (W.mono L.size)).mono aG));have Z:=hid af;have H:=aO.out;have V:Hid ((l.take (i+1)).map Zgb=(l.take i).map Zgb++[(F,(t,Ziq fs))]):=V;have a3:Hid (((l.take (i+1)).map Zgb).length=i+1):=hid (by rw [XE,Xi];omega);have am:Hid (w.heap.size<=we.heap.size):=hid ai.out.size;have T:decide ((k:Int)<(fs.length:Int))=true->decide ((k:Int)<8)=false:=fun h=>by rw [Xg] at h;rw [Xk];omega
     obtain ⟨B,hB⟩:=Xn (decide ((k:Int)<(fs.length:Int)));rw [hB] at T;clear hT hU L aW aK E hS ae aa ab M W z af HT HU C HO HB HF HC r ap;cases B with
     | true =>
       have s2:=T rfl;clear T;go_wp2_with (first|(at_builtin;go_loud (refine Zf Zim rfl _ _ rfl w.heap.size (.slice p3 i ar) _ rfl J.out (fun b _ c=>Zgj (q.out b c).2) _ [(F,(t,Ziq fs))] rfl HS.out (by rw [Z.out];unfold maxLen;simp only [Xh,Xm];omega) (by rw [Z.out];simp only [Xh,Xm];omega) am.out ?_;intro v5 w5 a n A;rw [<- V.out] at a;have aj:Hid (Zaa w.heap.size w5 v5 ((l.take (i+1)).map Zgb)):=hid ⟨S,fun b c=>⟨(q.out b c).1,(q.out b c).2.keep A (Zgk J.out (q.out b c).2)⟩,a⟩;have u:=hid (ai.out.trans n);clear a n A))|(rw [aI.out]))
       all_goals (
        go_roundw
        case rel=>exact ⟨i+1,by omega,by omega,by go_num,aj,u⟩
        case measure=>simp [intOf];omega)
     | false =>
       clear T;go_wp2_with (first|(at_builtin;go_loud (refine Zf Zim rfl _ _ rfl w.heap.size (.slice p3 i ar) _ rfl J.out (fun b _ c=>Zgj (q.out b c).2) _ [(F,(t,Ziq fs))] rfl HS.out (by rw [Z.out];unfold maxLen;simp only [Xh,Xm];omega) (by rw [Z.out];simp only [Xh,Xm];omega) am.out ?_;intro v5 w5 a n A;rw [<- V.out] at a;have aj:Hid (Zaa w.heap.size w5 v5 ((l.take (i+1)).map Zgb)):=hid ⟨S,fun b c=>⟨(q.out b c).1,(q.out b c).2.keep A (Zgk J.out (q.out b c).2)⟩,a⟩;have u:=hid (ai.out.trans n);clear a n A))|(rw [aI.out]))
       all_goals (
        go_roundw
        case rel=>exact ⟨i+1,by omega,by omega,by go_num,aj,u⟩
        case measure=>simp [intOf];omega)
  ·have r:(l.take i).map Zgb=ZkA l:=by
    unfold ZkA;rcases Nat.lt_or_ge i l.length with h|h
    ·rw [show i=40 by omega]
    ·rw [XM h,XM (by omega:l.length<=40)]
   have O:decide ((i:Int)<(l.length:Int))=true->decide ((i:Int)<40)=false:=fun h=>by rw [Xg] at h;rw [Xk];omega
   obtain ⟨B,hB⟩:=Xn (decide ((i:Int)<(l.length:Int)));rw [hB] at O;have hO:=HO.out;rw [r] at hO;have ax:=hid hO;clear r HO hO;cases B with
   | true =>
     have s2:=O rfl;clear O;go_wp2_with fail
     all_goals (
      go_ret;exact ⟨_,rfl,ax.out,HB.out⟩)
   | false =>
     clear O;go_wp2_with fail
     all_goals (
      go_ret;exact ⟨_,rfl,ax.out,HB.out⟩)
theorem ZAu (v:Value) (l:List Zo) (w:World) (b:ZN ZA w v l):Calls prog 8 #[v] w (Zta (ZfK l) w):=by
 obtain ⟨p,a,rfl,r,d,_⟩:=b.shape;unfold maxLen at d;have q:(min (l.length:Int) 25).toNat=min l.length 25:=by omega
 have g:=ZD.take b (min l.length 25) (by omega)
 have o:l.take (min l.length 25)=l.take 25:=by
  by_cases h:l.length<=25
  ·rw [Xao h,XC,XM h]
  ·rw [Xa3 (by omega)]
 rw [o] at g;have f:=hid (Zuz _ _ w g);have s:min (l.length:Int) 25=((min l.length 25:Nat):Int):=by omega
 obtain ⟨m,i⟩:=Xn (min l.length 25);rw [i] at f s;have i1:m<=a:=by omega
 have i2:(m:Int)<=(a:Int):=by omega
 clear b g o i q;go_enter func8,ntmps8;go_wp2_with fail;refine f.out.mono ?_;rintro e w1 ⟨u,rfl,c,j⟩;have n:=hid (And.intro c j);obtain ⟨pu,cu,rfl,_⟩:=c.any.shape;clear c j f;go_wp2_with fail;go_ret;exact ⟨_,rfl,n.out.1,n.out.2⟩
theorem ZAf (B:Nat) (v:Value) (b:Xu) (w:World) (d:Z3 B w v b):Calls prog 9 #[v] w fun e w'=>(∃u,e=.returned u/\Z3 B w u (b.take 9000))/\w=w':=by
 obtain ⟨p,a,rfl,j,f⟩:=d.shape;unfold maxLen at f;have c:=Z3.take d (min b.length 9000) (by omega)
 have i:b.take (min b.length 9000)=b.take 9000:=by
  by_cases h:b.length<=9000
  ·rw [Xao h,XC,XM h]
  ·rw [Xa3 (by omega)]
 rw [i] at c;have n:min (b.length:Int) 9000=((min b.length 9000:Nat):Int):=by omega
 obtain ⟨m,g⟩:=Xn (min b.length 9000);rw [g] at c n;have i1:m<=a:=by omega
 have i2:(m:Int)<=(a:Int):=by omega
 have l:=hid c;clear d c i g;go_enter func9,ntmps9;go_wp2_with fail;go_ret;exact ⟨⟨_,rfl,l.out⟩,rfl⟩
end SG
namespace EV
open RowKit MM EM VM
open VP
variable {l:Xu} {k:Nat}
theorem ZCj (h:(Zan l).2.2≠0):ZcV l=none:=by
 unfold ZcV rdE;rw [Xe h]
theorem ZCk (a:(Zan l).2.2=0) (h:(Zk (l.drop (Zan l).2.1)).2.2≠0\/16<(Zk (l.drop (Zan l).2.1)).1):ZcV l=none:=by
 unfold ZcV rdE;rw [Xa (by simpa using a),Xe h]
def ZCe (z:Int):Option (List Fld×Xu)->Option (Ev×Xu)
 | none=>none
 | some (fs,r)=>if ZG (z,fs)=0 then some ((z,fs),r) else none
theorem ZCl (a:(Zan l).2.2=0) (h:¬((Zk (l.drop (Zan l).2.1)).2.2≠0\/16<(Zk (l.drop (Zan l).2.1)).1)) :
  ZcV l=ZCe (Zan l).1 (ZbD (Zk (l.drop (Zan l).2.1)).1 [] ((l.drop (Zan l).2.1).drop (Zk (l.drop (Zan l).2.1)).2.1)):=by
 unfold ZcV rdE;rw [Xa (by simpa using a),Xa h];cases ZbD (Zk (l.drop (Zan l).2.1)).1 [] ((l.drop (Zan l).2.1).drop (Zk (l.drop (Zan l).2.1)).2.1) with
 | none=>rfl
 | some p=>obtain ⟨fs,r⟩:=p;rfl
theorem Zsa {acc:List Fld} (h:(ZW l 32).2.2≠0\/(ZW (VG.Zbd l 32) 4096).2.2≠0):ZbD (k+1) acc l=none:=by
 rw [ZbD]
 by_cases a:(ZW l 32).2.2=0
 ·unfold VG.Zbd at h;rw [Xe a] at h;rw [Xe h]
 ·rw [Xe (.inl a)]
theorem ZxD {acc:List Fld} (b:(ZW l 32).2.2=0) (a:(ZW (VG.Zbd l 32) 4096).2.2=0):ZbD (k+1) acc l=ZbD k (acc++[((ZW l 32).1,(ZW (VG.Zbd l 32) 4096).1)]) (VG.Zbd (VG.Zbd l 32) 4096):=by
 have e:VG.Zbd l 32=l.drop (ZW l 32).2.1:=by unfold VG.Zbd;rw [Xe b]
 rw [ZbD];rw [e] at a ⊢;rw [Xa (fun h=>h.elim (fun h=>h b) (fun h=>h a))];unfold VG.Zbd;rw [Xe a]
def ZzZ (B:Nat) (s:Ev×Xu×Int) (w:World) (e:Ending) (w':World):Prop :=
 ∃u v,e=.returned (.tuple #[.agg #[.int .i64 s.1.1,u],v,.int .i64 s.2.2])/\ZD Z8 (ZcG w w') w' u s.1.2/\Z3 B w' v s.2.1/\Below w.heap.size w w'
theorem Zfj (B:Nat) (v:Value) (l:Xu) (w:World) (hv:Z3 B w v l) (hB:B<=w.heap.size):Calls prog 110 #[v] w (ZzZ B (ZaP l) w):=by
 obtain ⟨R,hR⟩:=Xn w.heap.size;obtain ⟨wa,aa⟩:=Xn (w.alloc (.cells #[.int .i64 0,.slice none 0 0] 57));have o:Below w.heap.size w wa:=by rw [<- aa];exact (Below.refl _ _).alloc (Xc _) _
 have bK:wa.heap.size=R+1:=by rw [<- aa,<- hR];simp
 have t0:Two wa R 57 (.int .i64 0) (.slice none 0 0):=by rw [<- aa,<- hR];exact ZdP w 57 _ _
 have a1:Z3 B wa v l:=hv.below (o.mono hB);have HG:=hid (VG.ZsE B v l wa a1 (by omega));have ac:=hid (fun v l W (h:Z3 B W v l) (hb:B<=W.heap.size)=>VG.Zfj B v l W h hb)
 have f:Hid (∀W a b,Two W R 57 a b->Below w.heap.size w W->ZcV l=none ->
   ZzZ B (ZaP l) w (.returned (.tuple #[.agg #[.int .i64 0,.slice none 0 0],.slice none 0 0,.int .i64 100])) ((W.setCell ⟨R,0,none⟩ (.int .i64 0)).setCell ⟨R,1,none⟩ (.slice none 0 0))):=hid (fun W a b ht hb hn=>by
  rw [Zc4 hn];exact ⟨_,_,rfl,ZD.nil_ _ _,Z3.nil_ _ _,hb.trans ((ZdC (.int .i64 0) (.slice none 0 0)).below (B:=w.heap.size) (by have:=ht.lt;omega) (fun k N=>by omega))⟩)
 have av:=hid (@ZCj l);have aI:=hid (@ZCk l);have aL:=hid (@ZCl l);have T0:=hid t0;have ay:=hid o;have aN:=hid aa;have bL:=hid hR;have a2:(Zan l).2.2=0->VG.Zab l=l.drop (Zan l).2.1:=fun h=>by unfold VG.Zab;exact Xe h
 have aG:=hid a2;generalize (Zan l).1=z at *;generalize (Zan l).2.2=a8 at *;generalize l.drop (Zan l).2.1=d1 at *;generalize VG.Zab l=Y at *;clear hv o aa t0 a1 a2;go_enter func110,ntmps110;go_wp2_with fail;rw [aN.out];refine HG.out.mono ?_;rintro e w1 ⟨v1,rfl,aR,aj⟩;have bI:=aj.size;have bx:=T0.out.below aj (by omega);have M:=hid bx;have af:=hid (ay.out.trans (aj.mono ay.out.size));have bm:=hid aR;clear aj aR HG T0 ay aN
 by_cases az:a8=0
 ·subst az;have bu:=aG.out rfl;subst bu;have aS:=hid (ac.out v1 Y w1 bm.out (by omega));have aX:=aI.out rfl;have ab:=aL.out rfl;have au:(Zk Y).2.2=0->VG.Zab Y=Y.drop (Zk Y).2.1:=fun h=>by unfold VG.Zab;exact Xe h
  have bH:=(ZaN Y).1;generalize (Zk Y).1=n at *;generalize (Zk Y).2.2=s at *;generalize Y.drop (Zk Y).2.1=d2 at *;generalize VG.Zab Y=l2 at *;have I:=hid aX;have H:=hid ab;have J:=hid au;clear aX ab au av aI aL aG ac;have t1:(s != 0) = !(decide (s=0)):=rfl;go_wp2_with fail;refine aS.out.mono ?_;rintro e w2 ⟨v2,rfl,aU,ak⟩;have bM:=ak.size;have t:=hid (M.out.below ak M.out.lt);have aq:=hid (af.out.trans (ak.mono (by have:=af.out.size;omega)));have a3:=hid aU;clear ak aU aS M af bm
  by_cases D:s≠0\/16<n
  ·have V:=hid (f.out w2 _ _ t.out aq.out (I.out D));have HX:=hid (t.out.s01 (.int .i64 0) (.slice none 0 0));obtain ⟨_,_,b2,b3,b4,b5⟩:=t.out.all (.int .i64 0)
   by_cases ai:s=0
   ·have t2:(s != 0)=false:=by rw [bne_eq_false_iff_eq];exact ai
    have t3:decide ((n:Int)>16)=true:=Xw (by omega);clear f I H J D t1;go_wp2_with fail;refine bodyPost_ret (ZaX (p:=2) (u:=3) (v:=4) rfl underlying57 rfl Zcz _ _ R _ _ rfl HX.out) rfl V.out
   ·have t2:(s != 0)=true:=by rw [Xaa];exact ai
    clear f I H J D t1;go_wp2_with fail;refine bodyPost_ret (ZaX (p:=2) (u:=3) (v:=4) rfl underlying57 rfl Zcz _ _ R _ _ rfl HX.out) rfl V.out
  ·have ab:=H.out D;have ai:s=0:=Xar fun h=>D (.inl h);have bC:n<=16:=Nat.not_lt.1 fun h=>D (.inr h);subst ai;have bz:=J.out rfl;subst bz;have t3:decide ((n:Int)>16)=false:=XB (by omega);have t4:IntKind.i64.wrap (n:Int)=(n:Int):=by rw [IntKind.wrap_i64];omega
   have G:=hid ab;clear ab I H J D t1;obtain ⟨q,hq⟩:=Xn w2.heap.size;have bF:R<q:=by have:=t.out.lt;omega
   have ag:Below w2.heap.size w2 (w2.alloc (.cells #[.int .i64 z,.slice none 0 0] 57)):=(Below.refl _ _).alloc (Xc _) _;have bJ:(w2.alloc (.cells #[.int .i64 z,.slice none 0 0] 57)).heap.size=q+1:=by simp [hq]
   have aY:Hid (Two (w2.alloc (.cells #[.int .i64 z,.slice none 0 0] 57)) q 57 (.int .i64 z) (.slice none 0 0)):=hid (by rw [<- hq];exact ZdP w2 57 _ _);have aQ:=hid (t.out.below ag t.out.lt);have aW:=hid (aq.out.trans (ag.mono aq.out.size));have a9:=hid (a3.out.below (ag.mono (by omega)));have bp:=hid (Zz.nil_ (C:=Z8) 123 (q+1) (fun _=>False) (w2.alloc (.cells #[.int .i64 z,.slice none 0 0] 57)));obtain ⟨A,hA⟩:=Xn (ZbD n [] l2);have aP:=hid hA;have aD:Hid (ZcV l=ZCe z A):=hid (by rw [G.out,hA]);clear ag hA G t aq a3;go_wp2_with fail
   go_loopw [0,9] (fun bv iv wr=>∃(i:Nat) (fs:List Fld) (U:Xu) (u:Value),i<=n/\iv=.int .i64 i/\fs.length=i/\Hid (ZbD (n - i) fs U=A)/\Hid (Z3 B wr bv U)/\Hid (Zz Z8 123 (q+1) (fun _=>False) wr u fs)/\Hid (Two wr q 57 (.int .i64 z) u)/\Hid (Two wr R 57 (.int .i64 0) (.slice none 0 0))/\Hid (Below w.heap.size w wr)) (fun _ iv _=>n - (intOf iv).toNat)
   case atStart=>exact ⟨0,[],l2,_,by omega,rfl,rfl,aP,a9,bp,aY,aQ,aW⟩
   case round =>
    obtain ⟨i,fs,U,u,hi,rfl,aA,HA,HV,HO,r,HT,O⟩:=hrel;clear aP a9 bp aY aQ aW;have a4:=r.out.lt
    by_cases ae:i<n
    ·have q1:decide ((i:Int)<(n:Int))=true:=Xt;have bn:=hid (VG.ZkQ B u0 U 32 wr (by omega) (by omega) HV.out (by omega));have bk:=hid (fun v W (h:Z3 B W v (VG.Zbd U 32)) (hb:B<=W.heap.size)=>VG.ZkQ B v (VG.Zbd U 32) 4096 W (by omega) (by omega) h hb);have x:=Zsa (k:=n - (i+1)) (acc:=fs) (l:=U);have aK:=ZxD (k:=n - (i+1)) (acc:=fs) (l:=U);have F:=HA.out;rw [show n - i=n - (i+1)+1 by omega] at F;rw [F] at x aK;generalize (ZW U 32).1=s1 at *;generalize (ZW U 32).2.2=e1 at *;generalize VG.Zbd U 32=l3 at *;generalize (ZW l3 4096).1=s2 at *;generalize (ZW l3 4096).2.2=e2 at *;generalize VG.Zbd l3 4096=l4 at *;have m:=hid x;have ap:=hid aK;have br:=hid ae;clear x aK F HA ae HV;go_wp2_with fail;refine bn.out.mono ?_;rintro e w4 ⟨v4,rfl,bb,aE⟩;have HY:=hid (bk.out v4 w4 bb (by have:=aE.size;omega));have ax:=hid aE;clear bb aE bn bk;go_wp2_with fail;refine HY.out.mono ?_;rintro e w5 ⟨v5,rfl,a0,bq⟩;have j:Below wr.heap.size wr w5:=ax.out.trans (bq.mono ax.out.size);have bE:=j.size;have aZ:=hid a0;have aw:=hid (r.out.below j a4);have Z:=hid (HT.out.below j HT.out.lt);have an:=hid (O.out.trans (j.mono O.out.size));have X:=hid (HO.out.keep (Za (fun _=>True) j) (fun _ _ _=>trivial) (fun _ _=>trivial));clear a0 bq j ax r HT O HO HY
     by_cases g:e1≠0\/e2≠0
     ·have aB:=m.out g;have V:=hid (f.out w5 _ _ Z.out an.out (by rw [aD.out,aB];rfl));have aT:=hid (Z.out.s01 (.int .i64 0) (.slice none 0 0));obtain ⟨_,_,b2,b3,b4,b5⟩:=Z.out.all (.int .i64 0)
      by_cases h1:e1=0
      ·have t1:(e1 != 0)=false:=by rw [bne_eq_false_iff_eq];exact h1
       have t2:(e2 != 0)=true:=by rw [Xaa];exact g.elim (fun h=>absurd h1 h) id
       clear f m ap g aB h1;go_wp2_with fail;refine bodyPost_ret (ZaX (p:=2) (u:=3) (v:=4) rfl underlying57 rfl Zcz _ _ R _ _ rfl aT.out) rfl V.out
      ·have t1:(e1 != 0)=true:=by rw [Xaa];exact h1
       clear f m ap g aB h1;go_wp2_with fail;refine bodyPost_ret (ZaX (p:=2) (u:=3) (v:=4) rfl underlying57 rfl Zcz _ _ R _ _ rfl aT.out) rfl V.out
     ·have h1:e1=0:=Xar fun h=>g (.inl h);have h2:e2=0:=Xar fun h=>g (.inr h);have bs:=hid (ap.out h1 h2);have t1:(e1 != 0)=false:=by rw [bne_eq_false_iff_eq];exact h1
      have t2:(e2 != 0)=false:=by rw [bne_eq_false_iff_eq];exact h2
      have aM:=hid (X.out.alloc (.cells #[.string ⟨s1.toArray⟩,.string ⟨s2.toArray⟩] 123));have aO:=hid (Zby (C:=Z8) (S:=fun _=>False) (w:=w5) (vs:=[.string ⟨s1.toArray⟩,.string ⟨s2.toArray⟩]) (d:=(s1,s2)) 123 (Zgd.2 rfl));have k1:=aw.out.c1;have o:Kep (fun _=>True) w5 (w5.alloc (.cells #[.string ⟨s1.toArray⟩,.string ⟨s2.toArray⟩] 123)):=Zr _ _ _;have bg:=hid (aw.out.keep o trivial);have aV:=hid (Z.out.keep o trivial);have bB:u.ownBlock≠some q:=fun e=>by have:=(X.out.cells e).1;omega
      have bw:u.ownBlock≠some R:=fun e=>by have:=(X.out.cells e).1;omega
      have bf:=hid (fun k (h:u.ownBlock=some k)=>(X.out.cells h).1);have bo:=hid (an.out.trans ((Zr (fun _=>True) w5 (.cells #[.string ⟨s1.toArray⟩,.string ⟨s2.toArray⟩] 123)).below (B:=w.heap.size) (by have:=an.out.size;omega) (fun _ _=>trivial)));have a6:=hid (aZ.out.below (o.below (B:=B) (by omega) (fun _ _=>trivial)));clear m ap g h1 h2 o aw Z an aZ X;go_wp2_with (at_builtin;go_loud (refine Zf ZuH rfl _ _ rfl (q+1) u fs rfl aM.out (fun _ _ h=>h.elim) _ [(s1,s2)] rfl aO.out (by unfold maxLen;simp;omega) (by simp;omega) (by simp;omega) ?_;intro v7 w7 aC bt T;obtain ⟨p7,c7,rfl,_⟩:=aC.any.shape;have x7:=bg.out.keep T bB;obtain ⟨k0,k2,k3,k4,_,_⟩:=x7.all (.int .i64 z);have aH:=hid aC;have ao:=hid x7;have bl:=hid (aV.out.keep T bw);have bc:=hid (a6.out.below (T.below (B:=B) (by simp;omega) (fun k N e=>by have:=bf.out k e;omega)));have bh:=hid (bo.out.trans (T.below (B:=w.heap.size) (by simp;omega) (fun k N e=>by have:=bf.out k e;omega)));have bD:=T.size;clear aC bt T x7 aM aO bg aV bo a6))
      have L:Kep (fun b=>b≠q) w7 (w7.setCell ⟨q,1,none⟩ (.slice p7 (fs++[(s1,s2)]).length c7)):=ZbE _;have bi:=hid (aH.out.keep L (fun _ _ h=>h.elim) (fun k N=>by have:=(aH.out.cells N).1;omega));have a5:=hid (ao.out.s1 (.slice p7 (fs++[(s1,s2)]).length c7));have bj:=hid (bl.out.keep L (by omega));have ba:=hid (bc.out.below (L.below (B:=B) (by have:=L.size;have:=ao.out.lt;omega) (fun k N=>by omega)));have a7:=hid (bh.out.trans (L.below (B:=w.heap.size) (by have:=ao.out.lt;omega) (fun k N=>by omega)));have ae:=br.out;have be:(fs++[(s1,s2)]).length=i+1:=by rw [Xd,aA];rfl
      rw [be] at bi a5 bj ba a7;clear L aH ao bl bc bh;go_roundw
      case rel=>exact ⟨i+1,fs++[(s1,s2)],_,_,by omega,by go_num,be,hid bs.out.symm,ba,bi,a5,bj,a7⟩
      case measure=>simp [intOf];omega
    ·obtain rfl:i=n:=by omega
     have q1:decide ((i:Int)<(i:Int))=false:=by simp
     have F:=HA.out;rw [Xas,ZbD] at F;have k0:=r.out.c0;have k1:=r.out.c1;obtain ⟨pu,cu,bA,_⟩:=(Zz.any HO.out).shape;have am:=hid (ZiC z u fs wr HO.out.any);obtain ⟨c,hc⟩:=Xn (ZG (z,fs));rw [hc] at am;have G:Hid (ZcV l=if c=0 then some ((z,fs),U) else none):=hid (by rw [aD.out,<- F];unfold ZCe;dsimp only;rw [hc]);subst bA;rw [aA] at am;clear F HA ae hc aD;go_wp2_with fail;refine am.out.mono ?_;rintro e w9 ⟨rfl,y⟩;have bG:=y.size;have E:=hid (HT.out.below y HT.out.lt);have al:=hid (r.out.below y a4);have aF:=hid (HV.out.below (y.mono (by omega)));have ah:=hid (O.out.trans (y.mono O.out.size));have ad:=hid (HO.out.keep (Za (fun _=>True) y) (fun _ _ _=>trivial) (fun _ _=>trivial));clear y HT r HV O HO am k0 k1;obtain ⟨_,_,b2,b3,b4,b5⟩:=E.out.all (.int .i64 0);obtain ⟨_,_,_,_,c4,c5⟩:=E.out.all (.int .i64 z)
     by_cases h0:c=0
     ·subst h0;have k0:=al.out.c0;have k1:=al.out.c1;have bd:=Zcy G.out;have HX:=hid (E.out.s01 (.int .i64 z) (.slice pu fs.length cu));have ar:Kep (fun b=>b≠R) w9 ((w9.setCell ⟨R,0,none⟩ (.int .i64 z)).setCell ⟨R,1,none⟩ (.slice pu fs.length cu)):=ZdC _ _
      have V:Hid (ZzZ B (ZaP l) w (.returned (.tuple #[.agg #[.int .i64 z,.slice pu fs.length cu],u0,.int .i64 0])) ((w9.setCell ⟨R,0,none⟩ (.int .i64 z)).setCell ⟨R,1,none⟩ (.slice pu fs.length cu))):=hid (by
       rw [bd];refine ⟨_,_,rfl,?_,?_,?_⟩
       ·have aJ:=ad.out.keep ar (fun _ _ h=>h.elim) (fun k N=>by have:=(ad.out.cells N).1;omega);exact aJ.ron (fun k N=>⟨by have:=(aJ.cells N).1;omega,(aJ.cells N).2.2⟩) (fun _ _ h=>h.elim)
       ·exact aF.out.below (ar.below (B:=B) (by omega) (fun k N=>by omega))
       ·exact ah.out.trans (ar.below (B:=w.heap.size) (by omega) (fun k N=>by omega)))
      rw [aA] at HX V;clear bd ar G f ad aF ah al E;go_wp2_with fail;refine bodyPost_ret (ZaX (p:=2) (u:=3) (v:=4) rfl underlying57 rfl Zcz _ _ R _ _ rfl HX.out) rfl V.out
     ·have t1:(c != 0)=true:=by rw [Xaa];exact h0
      have V:=hid (f.out w9 _ _ E.out ah.out (by rw [G.out,Xa h0]));have HX:=hid (E.out.s01 (.int .i64 0) (.slice none 0 0));clear G f ad aF ah al E;go_wp2_with fail;refine bodyPost_ret (ZaX (p:=2) (u:=3) (v:=4) rfl underlying57 rfl Zcz _ _ R _ _ rfl HX.out) rfl V.out
 ·have V:=hid (f.out w1 _ _ M.out af.out (av.out az));have HX:=hid (M.out.s01 (.int .i64 0) (.slice none 0 0));obtain ⟨_,_,b2,b3,b4,b5⟩:=M.out.all (.int .i64 0);have q1:(a8 != 0)=true:=by rw [Xaa];exact az
  clear f av aI aL aG ac;go_wp2_with fail;refine bodyPost_ret (ZaX (p:=2) (u:=3) (v:=4) rfl underlying57 rfl Zcz _ _ R _ _ rfl HX.out) rfl V.out
end EV
namespace ST
open RowKit MM EM SM VM DM
open EV (ZA evC Z8 Zad Zch Zim ZcF ZbP ZaP Zcy Zc4 ZzZ ZcG IsF Zfj)
variable {B b:Nat} {w:World}
theorem Zw4 (h:IsF w b):Apt 59 B w b:=.inr fun d fr c=>by
 obtain ⟨c2,f2,a⟩:=h;rw [c] at a;simp at a
theorem Zw5 {S:Nat->Prop} {v:Value} {es:List Zo} (h:Zz ZA 59 B S w v es) (f:IsF w b):v.ownBlock≠some b:=fun e=>by
 obtain ⟨c2,f2,a⟩:=f;obtain ⟨_,_,d,fr,c⟩:=h.cells e;rw [c] at a;simp at a
theorem Zzb {α:Type} (o:Option (Nat×Xu)) (F:Xu->Option α):(match o with
  | none=>none
  | some (_,y)=>F y)=if true=true/\o.isSome=true then F ((o.map (·.2)).getD []) else none:=by
 cases o with
 | none=>simp
 | some q=>obtain ⟨b,y⟩:=q;simp
theorem ZvN (k:Nat) (L:Xu):Ze1 (k+1) L=if (Zc8 L 1099511627776).isSome=true/\(Zc8 (((Zc8 L 1099511627776).map (·.2)).getD []) 1099511627776).isSome=true
  then Ze1 k (((Zc8 (((Zc8 L 1099511627776).map (·.2)).getD []) 1099511627776).map (·.2)).getD []) else none:=by
 rw [Ze1];cases h1:Zc8 L 1099511627776 with
 | none=>simp
 | some p =>
   obtain ⟨a,x⟩:=p;dsimp only [Option.map_some,Option.getD_some,Option.isSome_some];exact Zzb (Zc8 x 1099511627776) (Ze1 k)
theorem ZBm (f:Nat) (c:Int) (acc:List Zo) (L x:Xu) (o:Option (Nat×Xu)) (d:Zc8 L 1099511627776=o) (g:(o.map (·.2)).getD []=x) :
  rdR (f+1) c acc L=if o.isSome=true/\(ZaP x).2.2=0 then rdR f (c+1+((o.map (·.1)).getD 0:Nat)) (acc++[(c+1+((o.map (·.1)).getD 0:Nat),(ZaP x).1)]) (ZaP x).2.1 else none:=by
 subst g;rw [rdR,d];cases o with
 | none=>simp
 | some p =>
   obtain ⟨a,x⟩:=p;dsimp only [Option.map_some,Option.getD_some,Option.isSome_some];cases h2:ZcV x with
   | none=>simp [Zc4 h2]
   | some q=>obtain ⟨e,y⟩:=q;simp [Zcy h2]
theorem ZxG {x:Xu} (h:(ZaP x).2.2=0):Zid (ZaP x).1:=by
 cases h2:ZcV x with
 | none=>rw [Zc4 h2] at h;simp at h
 | some q=>obtain ⟨e,y⟩:=q;rw [Zcy h2];exact (Zc2 h2).2.1
def goS (n:Nat):Option Xu->Option (List Zo)
 | none=>none
 | some y=>rdR n 0 [] y
def ZC4 (a:Xu):Option (List Zo)->Option (List Zo)
 | none=>none
 | some l=>if isS l=true/\SM.encS l=a then some l else none
def ZBP (o:Option (List Zo)) (w:World) (e:Ending) (w':World):Prop :=
 ∃u S,e=.returned (.tuple #[u,.int .i64 (if o.isSome then 0 else 120)])/\Zz ZA 59 w.heap.size S w' u (o.getD [])/\(∀b,S b->w.heap.size<=b/\IsF w' b)/\Below w.heap.size w w'
theorem Zuq (w w':World) (h:Below w.heap.size w w'):ZBP none w (.returned (.tuple #[.slice none 0 0,.int .i64 120])) w' :=
 ⟨_,fun _=>False,rfl,Zz.nil_ _ _ _ _,fun _ h=>h.elim,h⟩
theorem Zq2 (v:Value) (j:Xu) (w:World) (hr:Zq w v j):Calls prog 55 #[v] w (ZBP (Zek j) w):=by
 have au:Z3 w.heap.size w v j:=hr;obtain ⟨pv,cv,rfl,bx,aY⟩:=au.shape;unfold maxLen at aY;have HV:=hid au;have af:=hid (Zq4 w.heap.size _ j 65536 w au (Xc _) (by omega));have ak:=hid (fun v l W (h:Z3 w.heap.size W v l) (m:w.heap.size<=W.heap.size)=>Zq4 w.heap.size v l 1099511627776 W h m (by omega));have a5:=hid (fun v l W (h:Z3 w.heap.size W v l) (m:w.heap.size<=W.heap.size)=>Zfj w.heap.size v l W h m);have f:=hid (Zuq w);obtain ⟨RD,ag⟩:=Xn (rdS j);obtain ⟨aa,hF⟩:=Xn (Zek j);have HF:Hid (ZC4 j RD=aa):=hid (by rw [<- hF,<- ag];unfold Zek;cases rdS j<;>rfl);rw [hF];unfold rdS at ag;obtain ⟨o0,aF⟩:=Xn (Zc8 j 65536);rw [aF] at af ag;obtain ⟨n,hn⟩:=Xn ((o0.map (·.1)).getD 0);obtain ⟨L0,aO⟩:=Xn ((o0.map (·.2)).getD []);obtain ⟨b0,aP⟩:=Xn o0.isSome
 have bB:n<=65536:=by
  rw [<- hn];cases o0 with
  | none=>simp
  | some p=>exact Zn8 aF
 have ap:Hid ((if b0=true/\n<=j.length then goS n (Ze1 (Zv n) L0) else none)=RD):=hid (by
  rw [<- ag,<- hn,<- aO,<- aP];cases o0 with
  | none=>simp
  | some p =>
    obtain ⟨a,y⟩:=p;dsimp only [Option.map_some,Option.getD_some,Option.isSome_some]
    by_cases h:j.length<a
    ·rw [Xa (by omega),Xe h]
    ·rw [Xe ⟨rfl,by omega⟩,Xa h];cases Ze1 (Zv a) y<;>rfl)
 unfold Zlt at af;rw [hn,aO,aP] at af;clear hr au ag aF hn aO aP hF;go_enter func55,ntmps55;go_wp2_with fail;refine af.out.mono ?_;rintro e w1 ⟨v1,rfl,aU,u⟩;have bd:=hid aU;have ao:=hid u;clear aU u af
 by_cases az:b0=true/\n<=j.length
 ·obtain ⟨rfl,bk⟩:=az;have o:=ap.out;rw [Xe ⟨rfl,bk⟩] at o;have H:=hid o;have t1:decide ((n:Int)>(j.length:Int))=false:=Xf;have t2:decide (j.length<n)=false:=XB (by omega);obtain ⟨SK,aL⟩:=Xn (Ze1 (Zv n) L0);rw [aL] at H;have aD:Hid (Ze1 (Zv n - 0) L0=SK):=hid aL;clear o ap aL;go_wp2_with fail
  go_loopw [5,7] (fun rv iv wr=>∃(c I:Nat) (L:Xu),Hid (I=16*c/\c<=Zv n)/\I<=n+15/\iv=.int .i64 I/\Hid (Ze1 (Zv n - c) L=SK)/\Hid (Z3 w.heap.size wr rv L)/\Hid (Below w.heap.size w wr)) (fun _ iv _=>n+16 - (intOf iv).toNat)
  case atStart=>exact ⟨0,0,L0,hid ⟨rfl,XU _⟩,by omega,rfl,aD,bd,ao⟩
  case round =>
   obtain ⟨c,I,L,HI,hi,rfl,av,HL,V⟩:=hrel;clear aD bd ao;have ac:w.heap.size<=wr.heap.size:=V.out.size
   by_cases X:I<n
   ·have q1:decide ((I:Int)<(n:Int))=true:=Xt;have q2:decide (I<n)=true:=Xw X;have bf:c<Zv n:=by have:=HI.out.1;unfold Zv;omega
    have hs:=av.out;rw [show Zv n - c=Zv n - (c+1)+1 by omega,ZvN] at hs;obtain ⟨o1,N⟩:=Xn (Zc8 L 1099511627776);have s:=hid (ak.out u5 L wr HL.out ac);rw [N] at s hs;obtain ⟨x,hx⟩:=Xn ((o1.map (·.2)).getD []);obtain ⟨M,J⟩:=Xn ((o1.map (·.1)).getD 0);obtain ⟨b1,u⟩:=Xn o1.isSome;unfold Zlt at s;rw [hx,J,u] at s;rw [hx,u] at hs;obtain ⟨o2,a4⟩:=Xn (Zc8 x 1099511627776);have D:=hid (fun v W h m=>ak.out v x W h m);rw [a4] at D hs;obtain ⟨y,hy⟩:=Xn ((o2.map (·.2)).getD []);obtain ⟨d2,ba⟩:=Xn ((o2.map (·.1)).getD 0);obtain ⟨b2,q⟩:=Xn o2.isSome;unfold Zlt at D;rw [hy,ba,q] at D;rw [hy,q] at hs;have Y:=hid hs;have bp:Hid (I+16=16*(c+1)/\c+1<=Zv n):=hid ⟨by have:=HI.out.1;omega,bf⟩;clear N hx J u a4 hy ba q hs av HI bf;go_wp2_with fail;refine s.out.mono ?_;rintro e U ⟨v2,rfl,ad,q⟩;have ae:=hid ad;have O:=hid (V.out.trans (q.mono ac));have aj:w.heap.size<=U.heap.size:=O.out.size;clear ad q s V HL;go_wp2_with fail;refine (D.out v2 U ae.out aj).mono ?_;rintro e w3 ⟨v3,rfl,bb,bc⟩;have br:=hid bb;have aI:=hid (O.out.trans (bc.mono aj));clear bb bc D O ae;cases b1 with
    | false =>
      have hs:=Y.out;rw [Xa (by simp)] at hs;have g:=HF.out;rw [<- H.out,<- hs] at g;have g:none=aa:=g;subst g;clear hs Y;go_wp2_with fail;go_ret2;exact f.out _ aI.out
    | true =>
      cases b2 with
      | false =>
        have hs:=Y.out;rw [Xa (by simp)] at hs;have g:=HF.out;rw [<- H.out,<- hs] at g;have g:none=aa:=g;subst g;clear hs Y;go_wp2_with fail;go_ret2;exact f.out _ aI.out
      | true =>
        have hs:=Y.out;rw [Xe ⟨rfl,rfl⟩] at hs;have ah:=hid hs;clear hs Y;go_wp2_with fail;go_roundw
        case rel=>exact ⟨c+1,I+16,y,bp,by omega,by go_num,ah,br,aI⟩
        case measure=>simp [intOf];omega
   ·have q1:decide ((I:Int)<(n:Int))=false:=Xf;have q2:decide (I<n)=false:=XB X;have hc:Zv n - c=0:=by have:=HI.out;unfold Zv;omega
    have hs:=av.out;rw [hc,Ze1] at hs;have o:=H.out;rw [<- hs] at o;have o:rdR (n - 0) 0 [] L=RD:=o;have aW:=hid o;have a6:Hid (ZaH []):=hid (fun d h=>by simp at h);have aT:=hid (Zz.nil_ (C:=ZA) 59 w.heap.size (fun _=>False) wr);have a7:Hid (∀b,(fun _=>False) b->w.heap.size<=b/\IsF wr b):=hid (fun _ h=>h.elim);obtain ⟨W0,rfl⟩:∃W0,W0=wr:=⟨_,rfl⟩;clear hc hs o H av HI;go_wp2_with fail
    go_loopw [5,14,15,16] (fun rv lv zv iv wr=>∃(i:Nat) (z:Int) (acc:List Zo) (L:Xu) (S:Nat->Prop),i<=n/\iv=.int .i64 i/\zv=.int .i64 z/\0<=z/\z<=1099511627777*(i:Int)/\acc.length=i/\Hid (rdR (n - i) z acc L=RD)/\Hid (ZaH acc)/\Hid (Z3 w.heap.size wr rv L)/\Hid (Zz ZA 59 w.heap.size S wr lv acc)/\Hid (∀b,S b->w.heap.size<=b/\IsF wr b)/\Hid (Below w.heap.size w wr)) (fun _ _ _ iv _=>n - (intOf iv).toNat)
    case atStart=>exact ⟨0,0,[],L,_,by omega,rfl,rfl,by omega,by omega,rfl,aW,a6,HL,aT,a7,V⟩
    case round =>
     obtain ⟨i,z,acc,L,S,hi,rfl,rfl,bA,bC,bv,HD,aH,HL,HO,Y,V⟩:=hrel;clear aW a6 aT a7;have ac:w.heap.size<=wr.heap.size:=V.out.size
     by_cases X:i<n
     ·have q1:decide ((i:Int)<(n:Int))=true:=Xt;have q2:decide (i<n)=true:=Xw X;have r:=HD.out;obtain ⟨o1,N⟩:=Xn (Zc8 L 1099511627776);obtain ⟨x,hx⟩:=Xn ((o1.map (·.2)).getD []);rw [show n - i=n - (i+1)+1 by omega,ZBm _ _ _ _ x o1 N hx] at r;have s:=hid (ak.out u5 L wr HL.out ac);rw [N] at s
      have bm:(o1.map (·.1)).getD 0<=1099511627776:=by
       cases o1 with
       | none=>simp
       | some p=>exact Zn8 N
      obtain ⟨M,J⟩:=Xn ((o1.map (·.1)).getD 0);obtain ⟨b1,u⟩:=Xn o1.isSome;unfold Zlt at s;rw [hx,J,u] at s;rw [J,u] at r;rw [J] at bm;have D:=hid (fun v W h m=>a5.out v x W h m);have aC:=@ZxG x;obtain ⟨⟨⟨tm,fs⟩,l4,er⟩,hG⟩:∃G,ZaP x=G:=⟨_,rfl⟩;rw [hG] at r D aC;dsimp only at r aC;have aw:=hid r;have aV:=hid aC;clear N hx J u r hG HD aC;go_wp2_with fail;refine s.out.mono ?_;rintro e U ⟨v2,rfl,ad,q⟩;have bz:=q.size;have ae:=hid ad;have O:=hid (V.out.trans (q.mono ac));have aj:w.heap.size<=U.heap.size:=O.out.size;have bg:=hid (HO.out.keep (Za (fun _=>True) q) (fun _ _ _=>trivial) (fun _ _=>trivial));have ah:Hid (∀b,S b->w.heap.size<=b/\IsF U b):=hid (fun b m=>⟨(Y.out b m).1,(Y.out b m).2.keep (Za (fun _=>True) q) trivial⟩);clear ad q s V HL HO Y;go_wp2_with fail;refine (D.out v2 U ae.out aj).mono ?_;rintro e R ⟨ue,v5,rfl,aq,aK,t⟩;dsimp only at aq aK ⊢;obtain ⟨pe,ce,rfl,_⟩:=aq.shape;have bi:=t.size;obtain ⟨g5,bh⟩:=Xn R.heap.size;obtain ⟨w6,Z⟩:=Xn (R.alloc (.cells #[.int .i64 tm,.slice pe fs.length ce] 57));have ai:Below R.heap.size R w6:=by rw [<- Z];exact (Below.refl _ _).alloc (Xc _) _
      have bw:w6.heap.size=g5+1:=by rw [<- Z,<- bh];simp
      have x6:Two w6 g5 57 (.int .i64 tm) (.slice pe fs.length ce):=by rw [<- Z,<- bh];exact ZdP R 57 _ _
      have aB:Below U.heap.size U w6:=t.trans (ai.mono bi);have aM:=hid (aK.below (ai.mono (by omega)));have aJ:=hid (ZD.keep aq (Za _ ai) fun _ _ h=>h);have ab:=hid (O.out.trans (aB.mono aj));have aX:=bg.out.keep (Za (fun _=>True) aB) (fun _ _ _=>trivial) (fun _ _=>trivial);have al:=hid (aX.weak (T:=fun b=>S b\/ZcG U R b) (fun b _ m=>.inl m));have am:Hid (∀b,(S b\/ZcG U R b)->w.heap.size<=b/\IsF w6 b):=hid (fun b m=>m.elim (fun h=>⟨(ah.out b h).1,(ah.out b h).2.keep (Za (fun _=>True) aB) trivial⟩) (fun h=>⟨by have:=h.1;omega,h.2.keep (Za (fun _=>True) ai) trivial⟩));have a3:=hid Z;have m0:=x6.c0;have m1:=x6.c1;rw [<- Z] at m0 m1;clear t ai aK x6 aB aX bg ah D aq Z O ae
      by_cases aR:b1=true/\er=0
      ·obtain ⟨rfl,rfl⟩:=aR;have r:=aw.out;rw [Xe ⟨rfl,rfl⟩] at r;have bl:=hid r;have a1:IntKind.i64.wrap (z+1)=z+1:=by rw [IntKind.wrap_i64];omega
       have a2:IntKind.i64.wrap (z+1+(M:Int))=z+1+(M:Int):=by rw [IntKind.wrap_i64];omega
       have a0:=hid (show ZA.on (fun b=>S b\/ZcG U R b) w6 [.int .i64 (z+1+(M:Int)),.int .i64 tm,.slice pe fs.length ce] (z+1+(M:Int),(tm,fs)) from Zch.2 ⟨_,rfl,aJ.out.weak fun b _ m=>.inr m⟩);have ax:=hid (Zby (C:=ZA) (S:=fun b=>S b\/ZcG U R b) (w:=w6) (vs:=[.int .i64 (z+1+(M:Int)),.int .i64 tm,.slice pe fs.length ce]) (d:=(z+1+(M:Int),(tm,fs))) 59 a0.out);have ay:=hid (al.out.alloc (.cells #[.int .i64 (z+1+(M:Int)),.int .i64 tm,.slice pe fs.length ce] 59));have an:Kep (fun _=>True) w6 (w6.alloc (.cells #[.int .i64 (z+1+(M:Int)),.int .i64 tm,.slice pe fs.length ce] 59)):=Zr _ _ _;have A:Hid (∀b,(S b\/ZcG U R b)->w.heap.size<=b/\IsF (w6.alloc (.cells #[.int .i64 (z+1+(M:Int)),.int .i64 tm,.slice pe fs.length ce] 59)) b):=hid (fun b m=>⟨(am.out b m).1,(am.out b m).2.keep an trivial⟩);have aQ:=hid (ab.out.trans (an.below (B:=w.heap.size) ab.out.size (fun _ _=>trivial)));have aN:=hid (aM.out.below (an.below (B:=w.heap.size) ab.out.size (fun _ _=>trivial)));have bD:=hid (fun k (h:u14.ownBlock=some k)=>(al.out.cells h).1)
       have bo:Hid (ZaH (acc++[(z+1+(M:Int),(tm,fs))])):=hid (fun d r=>by
        rcases Xak.1 r with r|r
        ·exact aH.out d r
        ·obtain rfl:=XaF.1 r;exact aV.out rfl)
       have a8:(acc++[(z+1+(M:Int),((tm,fs):Ev))]).length=i+1:=by rw [Xd,bv];rfl
       rw [bw] at ax;rw [<- a3.out] at ax ay A aQ aN;clear r aw an ab aM al am aJ a0 aH aV;go_wp2_with (at_builtin;go_loud (refine Zf Zim rfl _ _ rfl w.heap.size u14 acc rfl ay.out (fun b _ m=>Zw4 (A.out b m).2) _ [(z+1+(M:Int),(tm,fs))] rfl ax.out (by unfold maxLen;simp;omega) (by simp;omega) (by simp;omega) ?_;intro v8 w8 aE aS be;obtain ⟨p8,c8,rfl,_⟩:=aE.any.shape;have a9:=hid aE;have bt:=hid (aN.out.below aS);have bq:=hid (aQ.out.trans aS);have bj:Hid (∀b,(S b\/ZcG U R b)->w.heap.size<=b/\IsF w8 b):=hid (fun b m=>⟨(A.out b m).1,(A.out b m).2.keep be (Zw5 ay.out (A.out b m).2)⟩);clear aE aS be ay ax aQ aN A))
       rw [a8] at a9;go_roundw
       case rel=>exact ⟨i+1,z+1+(M:Int),acc++[(z+1+(M:Int),(tm,fs))],_,_,by omega,by go_num,rfl,by omega,by omega,a8,bl,bo,bt,a9,bj,bq⟩
       case measure=>simp [intOf];omega
      ·have r:=aw.out;rw [Xa aR] at r;have g:=HF.out;rw [<- r] at g;have g:none=aa:=g;subst g;have HQ:=hid (f.out _ ab.out);rw [<- a3.out] at HQ;clear r aw ab aM al am aJ;cases b1 with
       | false =>
         go_wp2_with fail;go_ret2;exact HQ.out
       | true =>
         have t8:(er != 0)=true:=by rw [Xaa];exact fun h=>aR ⟨rfl,h⟩
         go_wp2_with fail;go_ret2;exact HQ.out
     ·obtain rfl:i=n:=by omega
      have q1:decide ((i:Int)<(i:Int))=false:=by simp
      have q2:decide (i<i)=false:=by simp
      have hn:rdR (i - i) z acc L=RD:=HD.out;rw [Xas,rdR] at hn;subst hn;have g:(if isS acc=true/\SM.encS acc=j then some acc else none)=aa:=HF.out;have HR:=hid (Zdh u14 acc wr HO.out.any aH.out)
      by_cases hA:isS acc=true
      ·rw [Xe hA,Xe hA] at HR;have F:(if isS acc=true/\SM.encS acc=j then some acc else none)=(if SM.encS acc=j then some acc else none):=by simp [hA]
       rw [F] at g;clear HF;generalize SM.encS acc=E at *;have HF:=hid g;clear g hA F HL HD X;go_wp2_with fail;refine HR.out.mono ?_;rintro e R ⟨v5,rfl,aA,t⟩;have c1:=Z3.conv (Zd.brow aA);have aG:=V.out.trans (t.mono V.out.size);have c2:=Z3.conv (HV.out.below aG);have aZ:=Zb5 E j;have ar:=hid aG;have bu:=hid (HO.out.keep (Za (fun _=>True) t) (fun _ _ _=>trivial) (fun _ _=>trivial));have bn:Hid (∀b,S b->w.heap.size<=b/\IsF R b):=hid (fun b m=>⟨(Y.out b m).1,(Y.out b m).2.keep (Za (fun _=>True) t) trivial⟩);clear aA t aG HR HO V Y
       by_cases he:E=j
       ·have q5:(E == j)=true:=by rw [Xan];exact he
        have q6:(E != j)=false:=by rw [bne_eq_false_iff_eq];exact he
        have r:decide (E=j)=true:=Xw he;rw [r] at aZ;have g:=HF.out;rw [Xe he] at g;subst g;clear he;go_wp2_with fail;go_ret2;exact ⟨_,_,rfl,bu.out,bn.out,ar.out⟩
       ·have q5:(E == j)=false:=by rw [Xab];exact he
        have q6:(E != j)=true:=by rw [Xaa];exact he
        have r:decide (E=j)=false:=XB he;rw [r] at aZ;have g:=HF.out;rw [Xa he] at g;subst g;clear he;go_wp2_with fail;go_ret2;exact f.out _ ar.out
      ·rw [Xa hA,Xa hA] at HR;have F:(if isS acc=true/\SM.encS acc=j then some acc else none)=none:=by simp [hA]
       rw [F] at g;subst g;clear hA F HL HD X;go_wp2_with fail;refine HR.out.mono ?_;rintro e R ⟨v5,rfl,aA,t⟩;have ar:=hid (V.out.trans (t.mono V.out.size));clear aA t HR HO V;go_wp2_with fail;go_ret2;exact f.out _ ar.out
 ·have o:=ap.out;rw [Xa az] at o;have g:=HF.out;rw [<- o] at g;have g:none=aa:=g;subst g;clear o ap HF;cases b0 with
  | false =>
    go_wp2_with fail;go_ret2;exact f.out _ ao.out
  | true =>
    have t1:decide ((n:Int)>(j.length:Int))=true:=by rw [Xg];have:¬n<=j.length:=fun h=>az ⟨rfl,h⟩;omega
    have t2:decide (j.length<n)=true:=by rw [Xg];have:¬n<=j.length:=fun h=>az ⟨rfl,h⟩;omega
    go_wp2_with fail;go_ret2;exact f.out _ ao.out
