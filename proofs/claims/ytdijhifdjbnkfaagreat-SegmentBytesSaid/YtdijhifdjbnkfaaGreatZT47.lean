import Derived.Test.YtdijhifdjbnkfaaGreatZT22
import Derived.Test.YtdijhifdjbnkfaaGreatZT46
set_option maxRecDepth 100000
set_option maxHeartbeats 0
set_option linter.unusedVariables false
set_option linter.unusedSimpArgs false
namespace Go.Proofs.YtdijhifdjbnkfaaGreat
open Lib (hid)
open Tryz
namespace SR
open RowKit Go.Shelf MM VM SM
open EV (Z8 ZA Zim Zch IsF ZcG)
open RF (Znw Zdr Zh1 Ze5)
variable {D:Nat} {w A B:World}
attribute [local go_sem] Oper.semAt_some
abbrev Part:=Value×(List Zo×Int)
abbrev Zut (x:Part):Array Value:=#[x.1,.int .i64 x.2.2]
def Zei (D:Nat) (W:World) (b:Nat):Prop:=D<=b/\IsF W b
def ZB4 (D:Nat) (x:Part) (W:World):Prop:=x.2.1.length<=16/\(x.2.2=0->x.2.1≠[])/\Zdk ZA (Zei D W) W x.1 x.2.1
def ZcO (b:Xu):List (List Zo×Int):=(Zc0 b).1.map (fun c=>(c,(0:Int)))++if (Zc0 b).2.2=true\/(Zc0 b).2.1≠[] then [([],120)] else []
theorem ZsT {v:Value} {a:List Zo} (h:Zaa D w v a):Zdk ZA (Zei D w) w v a:=by
 obtain ⟨S,r,c,q,i⟩:=h;rcases q.2 with ⟨rfl,m⟩|⟨g,e,k,rfl,hg,f,d,p,hs,n⟩
 ·have:a=[]:=XO m;subst this;exact (ZD.nil_ _ _).src
 ·refine ⟨some ⟨g,0,none⟩,e,c,rfl,d,(fun h=>by cases h),i.keep (Kep.refl _ _) (fun b _ o=>r b o),.inr ⟨g,0,rfl,fun j u l => ?_⟩⟩;have:=Lib.cells_of_row f (a.length*ZA.size) j u (by rw [n];exact l);rw [ZY] at this;exact this
theorem ZwK (h:Zf0) (a:Int) (l:Xu) (o:Bool) (hn:0<=h.1) (f:h.1<=16):(Za7 h a l o).2.2=false->(Za7 h a l o).1.length<=16:=by
 intro b;unfold Za7 at b ⊢
 by_cases d:(l.length:Int)<h.2.2
 ·rw [Xe d] at b;cases b
 ·rw [Xa d] at b ⊢;dsimp only at b ⊢
  by_cases c:(Zaf h.1.toNat a (l.take h.2.2.toNat) false).2.2.2=true\/(Zaf h.1.toNat a (l.take h.2.2.toNat) false).2.2.1≠[]\/(Zaf h.1.toNat a (l.take h.2.2.toNat) false).2.1≠h.2.1
  ·rw [Xe c] at b;cases b
  ·rw [Xa c];dsimp only
   have e:(Zaf h.1.toNat a (l.take h.2.2.toNat) false).2.2.2=false:=by
    cases hc:(Zaf h.1.toNat a (l.take h.2.2.toNat) false).2.2.2 with
    | false=>rfl
    | true=>exact absurd (.inl hc) c
   have:=(ZjQ _ _ _ _ e).2.1;omega
theorem ZkG:∀(f n:Nat) (l:Xu) (o:Bool),(ZT f n l o).1.length<=f
 | 0,_,_,_=>by simp [ZT]
 | f+1,n,l,o=>by
   rw [ZT]
   by_cases a:n=0
   ·rw [Xe a];simp
   ·rw [Xa a];have:=ZkG f (n - 16) (Ze (Ze 1099511627776 l o).2.1.length (Ze 1099511627776 l o).2.1 (Ze 1099511627776 l o).2.2).2.1 (Ze (Ze 1099511627776 l o).2.1.length (Ze 1099511627776 l o).2.1 (Ze 1099511627776 l o).2.2).2.2;dsimp only;rw [Xh];omega
theorem Zmo:∀(f n:Nat) (l:Xu) (o:Bool),(ZT f n l o).2.1.length<=l.length
 | 0,_,_,_=>by simp [ZT]
 | f+1,n,l,o=>by
   rw [ZT]
   by_cases a:n=0
   ·rw [Xe a];exact Xc _
   ·rw [Xa a];have e1:=Zcn 1099511627776 l o;have e2:=Zcn (Ze 1099511627776 l o).2.1.length (Ze 1099511627776 l o).2.1 (Ze 1099511627776 l o).2.2;have:=Zmo f (n - 16) (Ze (Ze 1099511627776 l o).2.1.length (Ze 1099511627776 l o).2.1 (Ze 1099511627776 l o).2.2).2.1 (Ze (Ze 1099511627776 l o).2.1.length (Ze 1099511627776 l o).2.1 (Ze 1099511627776 l o).2.2).2.2;dsimp only;omega
theorem ZwL (h:Zf0) (a:Int) (l:Xu) (o:Bool):(Za7 h a l o).2.1.length<=l.length:=by
 unfold Za7
 split
 ·simp
 ·dsimp only
  split
  ·simp
  ·rw [Xj];omega
theorem Zy4 (hs:List Zf0) (a:Int) (l:Xu) (o:Bool) {k:Nat} (b:k<hs.length):ZbO (hs.drop k) a l o =
  if (Za7 hs[k] a l o).2.2=true then ([],(Za7 hs[k] a l o).2.1,true) else
  ((Za7 hs[k] a l o).1::(ZbO (hs.drop (k+1)) hs[k].2.1 (Za7 hs[k] a l o).2.1 (Za7 hs[k] a l o).2.2).1,(ZbO (hs.drop (k+1)) hs[k].2.1 (Za7 hs[k] a l o).2.1 (Za7 hs[k] a l o).2.2).2):=by
 rw [X9 b,ZbO]
theorem ZBt (hs:List Zf0) (a:Int) (l:Xu) (o:Bool):ZbO (hs.drop hs.length) a l o=([],l,o):=by rw [Xae,ZbO]
theorem Rd.cells {S:Nat->Prop} {g:Nat} {l:Xu} {o:Bool} (h:Rd S w g l o):∃p c,w.cell? ⟨g,0,none⟩=some (.slice p l.length c)/\w.cell? ⟨g,1,none⟩=some (.bool o)/\∃b fr,w.heap[g]? = some (.cells b 230 fr):=by
 obtain ⟨v,a,d⟩:=h;obtain ⟨p,c,rfl,_⟩:=d.shape;exact ⟨p,c,by rw [cell_of_row w g 0 _ _ _ a];rfl,by rw [cell_of_row w g 1 _ _ _ a];rfl,_,_,a⟩
theorem Ztt {q:Nat} (h:Kep (fun b=>b≠q) A B) (hD:D<=q) (c:∃a fr,A.heap[q]? = some (.cells a 230 fr)):Kep (Zh1 D 230 A) A B :=
 h.mono fun b d e=>d ⟨by omega,by rw [e];exact c⟩
theorem Zmf (h:Below A.heap.size A B):Kep (Zh1 D 230 A) A B:=Za _ h
variable {b:Xu}
attribute [local go_sem] Oper.semAt_some
theorem Zzn {hs:List Zf0} {d:Xu} {f:Bool} {a:List (List Zo)×Xu×Bool} (h:ZT 4096 (Ze 65536 b false).1 (Ze 65536 b false).2.1 (Ze 65536 b false).2.2=(hs,d,f)) (g:ZbO hs 0 d f=a) :
  ZcO b=a.1.map (fun c=>(c,(0:Int)))++if a.2.2=true\/a.2.1≠[] then [([],120)] else []:=by
 have e:Zc0 b=a:=by
  unfold Zc0;dsimp only;rw [h];exact g
 subst e;rfl
def Zrx (a:List Part):Prop:=a.map (·.2)=(a.map (·.2.1)).map fun c=>(c,(0:Int))
theorem Zrx.snoc {a:List Part} (h:Zrx a) (u:Value) (c:List Zo):Zrx (a++[(u,(c,0))]):=by
 unfold Zrx at h ⊢;simp only [XN,h];rfl
theorem ZvZ {P:List Part} {r:List (List Zo)} {E:List (List Zo×Int)} (h:ZcO b=(P.map (·.2.1)++r).map (fun c=>(c,(0:Int)))++E) (a:Zrx P):P.map (·.2)=(ZcO b).take P.length:=by
 unfold Zrx at a;rw [h,XN,Xl,a,List.take_left' (by simp)]
theorem Zub (n:Nat) (hn:1<=n) (y bb D:Nat) (T:Nat->Prop) (v0:Value) (b:Xu) (J Jx:List Part->World->Prop) (hJ:Zdr D 230 J)
  (hY:∀pre x A,J pre A->ZB4 D x A->pre.length<4097->YieldAt Fence.wide (n - 1) prog y (Zut x) A fun e B =>
   (e=.returned (.bool true)/\J (pre++[x]) B/\Kep (Ze5 T D 59 A) A B)\/(e=.returned (.bool false)/\Jx (pre++[x]) B))
  (W:World) (hD:D<=W.heap.size) (hT:∀k,T k->k<D) (bc:W.cell? ⟨bb,0,none⟩=some v0) (hb:BOn T W v0 b) (h0:J [] W) (a6:b.length<=10000000000) :
  CallsIn Fence.wide n prog 156 #[.func (.yield y) #[] #[],.pointer (some ⟨bb,0,none⟩)] W fun e B=>(∃v,e=.returned v) /\
   ((∃p,p.map (·.2)=ZcO b/\J p B)\/(∃pre,(∃k,pre.map (·.2)=(ZcO b).take k)/\Jx pre B)):=by
 obtain ⟨p0,aP,rfl,bd,be⟩:=hb.shape;obtain ⟨q,hq⟩:=Xn W.heap.size;have ax:D<=q:=by omega
 have a3:¬T q:=fun h=>by have:=hT q h;omega
 obtain ⟨w1,af⟩:=Xn (W.alloc (.cells #[.slice p0 b.length aP,.bool false] 230));have aq:Below W.heap.size W w1:=by rw [<- af];exact (Below.refl _ _).alloc (Xc _) _
 have a2:w1.heap.size=q+1:=by rw [<- af,<- hq];simp
 have U:Rd T w1 q b false:=⟨_,by rw [<- af,<- hq];exact heap_alloc_new _ _,hb.below aq⟩;have aL:=hJ [] W w1 h0 (Zmf aq);have hH:=Zj1 T q b false w1 U a3 (fun k hk=>by have:=hT k hk;omega) (by omega);have E:=Zj2 4096 (Ze 65536 b false).1 (Ze 65536 b false).2.1 (Ze 65536 b false).2.2;have am:=ZkG 4096 (Ze 65536 b false).1 (Ze 65536 b false).2.1 (Ze 65536 b false).2.2;have S:=Zmo 4096 (Ze 65536 b false).1 (Ze 65536 b false).2.1 (Ze 65536 b false).2.2;have aQ:=Zcn 65536 b false;obtain ⟨hs,l2,o2,aC⟩:∃hs l2 o2,ZT 4096 (Ze 65536 b false).1 (Ze 65536 b false).2.1 (Ze 65536 b false).2.2=(hs,l2,o2):=⟨_,_,_,rfl⟩;rw [aC] at hH E am S;dsimp only at E am S;obtain ⟨au,hF⟩:=Xn (ZbO hs 0 l2 o2);have m:=hid (Zzn aC hF);have aM:Hid (((([]:List Part).map (·.2.1))++(ZbO (hs.drop 0) 0 l2 o2).1,(ZbO (hs.drop 0) 0 l2 o2).2)=au):=hid (by rw [<- hF];rfl);have HH:=hid hH;have ao:=hid (fun x hx=>E x hx);have HY:=hid hY;have HJ:=hid hJ;have aS:=hid U;have aR:=hid aL;have aT:=hid af;have HT:=hid hT;have a0:l2.length<=10000000000:=by omega
 have aW:(Ze 65536 b false).2.1.length<=10000000000:=by omega
 obtain ⟨M1,aN⟩:=Xn ((Ze 65536 b false).2.1.length);rw [aN] at ao aW;clear hH E hY hJ U aL af hF aC hb hT aq S aQ aN h0;refine callsIn_of_wp func156 rfl trivial ?_ rfl;simp only [ntmps156,Xat,Xh,Xm,Nat.reduceAdd,Nat.reduceSub,XaB,XaC,XaD,XaE,Xz,XJ];gi_wp2
 rw [aT.out];refine ⟨trivial,(callsIn_wide.2 HH.out).mono ?_⟩;rintro e w2 ⟨u,rfl,ho,hr,hk⟩;dsimp only at ho hr;rw [a2] at ho;obtain ⟨ph,ch,rfl,bg,bf,_⟩:=ho.any.shape;have aE:=HJ.out [] w1 w2 aR.out (Ztt hk ax aS.out.cells.choose_spec.choose_spec.2.2);have aO:=hid ho;have aJ:=hid hr;clear ho hr hk aR aS HH aT;gi_wp2
 gi_loopw [4,12] (fun av iv wr=>∃(k:Nat) (p:List Part) (A:Int) (L:Xu) (o:Bool),iv=.int .i64 k/\av=.int .i64 A/\k<=hs.length/\Hid (p.length=k)/\0<=A/\A<=1099511627776/\Hid (L.length<=10000000000)/\Hid (Zrx p)/\Hid ((p.map (·.2.1)++(ZbO (hs.drop k) A L o).1,(ZbO (hs.drop k) A L o).2)=au)/\Hid (Rd T wr q L o)/\Hid (Zz ZkD 234 (q+1) (fun _=>False) wr (.slice ph hs.length ch) hs)/\Hid (J p wr)) (fun _ iv _=>hs.length - (intOf iv).toNat)
 case atStart=>exact ⟨0,[],0,l2,o2,rfl,rfl,by omega,hid rfl,by omega,by omega,hid a0,hid rfl,aM,aJ,aO,hid aE⟩
 case round =>
  obtain ⟨k,p,A,L,o,rfl,rfl,hk,ay,aV,a4,HL,G,HF,HR,HO,X⟩:=hrel;clear aM aJ aO aE;have a9:=HR.out.lt;obtain ⟨pq,cq,y0,y1,ab⟩:=HR.out.cells;have aK:=hid ab
  by_cases w:k<hs.length
  ·have t1:decide ((k:Int)<(hs.length:Int))=true:=Xt;have t2:decide (k<hs.length)=true:=Xw w;have t3:(k:Int)<(hs.length:Int):=by omega
   obtain ⟨bh,oh,rfl,a8,_,c0,c1,c2⟩:=ZAB HO.out.any w;have z:=HF.out;rw [Zy4 hs A L o w] at z;have hm:=ao.out hs[k] (XH w);generalize hs[k]=hd at *;obtain ⟨hn,f,sz⟩:=hd;dsimp only at *;obtain ⟨m1,m2,⟨m3,m4⟩,m5,m6⟩:=hm;obtain ⟨nn,rfl⟩:=XaK (show 0<=hn by omega);obtain ⟨zz,rfl⟩:=XaK m2;obtain ⟨qh,a5⟩:=Xn wr.heap.size;obtain ⟨w3,N⟩:=Xn (wr.alloc (.cells #[.int .i64 (nn:Int),.int .i64 f,.int .i64 (zz:Int)] 234));have ad:Below wr.heap.size wr w3:=by rw [<- N];exact (Below.refl _ _).alloc (Xc _) _
   have X3:Hid (Three w3 qh 234 (.int .i64 (nn:Int)) (.int .i64 f) (.int .i64 (zz:Int))):=hid (by rw [<- N,<- a5];exact ZaE wr 234 _ _ _);have aB:=HR.out.below ad;have ba:=ad.size;have hB:=Zua T q nn zz f A L o w3 aB (fun h=>by have:=HT.out q h;omega) (fun k hk=>by have:=HT.out k hk;omega) (by have:=HL.out;omega) (by omega) (by omega) aV a4 m3 m4;have aj:=ZwK ((nn:Int),(f,(zz:Int))) A L o (by omega) m5;have ar:=fun h=>ZpK (h:=((nn:Int),(f,(zz:Int)))) (a:=A) (l:=L) (o:=o) m2 (by omega) h m4;have aa:=ZwL ((nn:Int),(f,(zz:Int))) A L o;obtain ⟨I,L',o',aI⟩:∃I L' o',Za7 ((nn:Int),(f,(zz:Int))) A L o=(I,L',o'):=⟨_,_,_,rfl⟩;rw [aI] at hB z aj aa ar;dsimp only at z aj aa;have HB:=hid hB;have ai:=hid z;have aH:=hid aj;have aY:Hid (o'=false->I≠[]):=hid (fun h e=>by have:=(ar h).2.1;dsimp only at this;rw [e] at this;simp at this;omega);clear ar;have aZ:Hid (L'.length<=10000000000):=hid (by have:=HL.out;omega);have aA:=hid (HO.out.keep (Za (fun _=>True) ad) (fun _ _ h=>h.elim) (fun _ _=>trivial));have aG:=hid (HJ.out p wr w3 X.out (Zmf ad));have an:Hid (∃ae fr,w3.heap[q]? = some (.cells ae 230 fr)):=hid aB.cells.choose_spec.choose_spec.2.2;have aF:=hid N;have aD:=hid w;obtain ⟨x0,x1,x2⟩:=X3.out.cells;rw [<- N] at x0 x1 x2;clear N ad aB hB z aj aI aa HF HL HR HO X aK ab y0 y1 w m6;gi_wp2
   rw [aF.out];refine ⟨trivial,(callsIn_wide.2 HB.out).mono ?_⟩;rintro e w4 ⟨u,rfl,az,ak,Z⟩;dsimp only at az ak;have a7:=Z.size;obtain ⟨pq,cq,y0,y1,ab⟩:=ak.cells;have x4:=X3.out.keep Z (fun e=>by omega);obtain ⟨e0,e1,e2⟩:=x4.cells;have V:=hid x4;have aX:=HJ.out p w3 w4 aG.out (Ztt Z ax an.out);have ah:=hid aX;have M:=hid ak;have ac:=hid (aA.out.keep Z (fun _ _ h=>h.elim) (fun g hg e=>by have:=(aA.out.cells hg).1;omega));have Y:=hid az;have ag:p.length<4097:=by have:=ay.out;have:=aD.out;omega
   clear Z ak az ab X3 aG aA HB aF an x0 x1 x2 c0 c1 c2 x4;cases o' with
   | true =>
     have F:=ai.out;rw [Xe rfl] at F;dsimp only at F;rw [XI] at F;subst F;have c:=m.out;dsimp only at c;rw [Xe (.inl rfl),<- G.out] at c;obtain ⟨fn,tmps,assign,body,C,r⟩:=HY.out p (.slice none 0 0,([],120)) w4 ah.out ⟨by simp,(fun h=>by cases h),(ZD.nil_ _ _).src⟩ ag;dsimp only [Zut] at C;have i:=hid r;have s:Hid ((p++[((.slice none 0 0:Value),(([]:List Zo),(120:Int)))]).map (·.2)=ZcO b):=hid (by rw [c,XN];rfl);clear c r ai V M ac Y;gi_wp2
     refine i.out.mono ?_;rintro e w5 (⟨rfl,d,t⟩|⟨rfl,d⟩)
     ·have j:=hid d;clear d t i C;gi_wp2
      go_end0
      exact ⟨⟨_,rfl⟩,.inl ⟨_,s.out,j.out⟩⟩
     ·have j:=hid d;clear d i C;gi_wp2
      go_end0
      exact ⟨⟨_,rfl⟩,.inr ⟨_,⟨(ZcO b).length,by rw [s.out,XC]⟩,j.out⟩⟩
   | false =>
     have F:=ai.out;rw [Xa (by simp)] at F;dsimp only at F;obtain ⟨pu,cu,rfl,_⟩:=Y.out.any.shape;have ap:Hid (((p++[((.slice pu I.length cu:Value),(I,(0:Int)))]).map (·.2.1)++(ZbO (hs.drop (k+1)) f L' false).1,(ZbO (hs.drop (k+1)) f L' false).2)=au):=hid (by rw [<- F];simp);have R:=hid (G.out.snoc (.slice pu I.length cu) I);have al:Hid (∃k,(p++[((.slice pu I.length cu:Value),(I,(0:Int)))]).map (·.2)=(ZcO b).take k):=hid ⟨_,ZvZ (by rw [m.out,<- ap.out]) R.out⟩;obtain ⟨fn,tmps,assign,body,C,r⟩:=HY.out p (.slice pu I.length cu,(I,0)) w4 ah.out ⟨aH.out rfl,(fun _=>aY.out rfl),ZsT (Y.out.base (by omega))⟩ ag;dsimp only [Zut] at C;have i:=hid r;clear F r ai aH G;gi_wp2
     refine i.out.mono ?_;rintro e w5 (⟨rfl,d,t⟩|⟨rfl,d⟩)
     ·have j:=hid d;have a1:=hid (M.out.keep t (by obtain ⟨_,_,_,_,ae,fr,hc⟩:=M.out.cells;exact .inr ⟨ax,ae,_,fr,hc,by decide⟩) (fun b _ hT=>.inl hT));have X5:=V.out.keep t (.inr ⟨by omega,_,_,_,V.out,by decide⟩);have aU:=hid (ac.out.keep t (fun _ _ h=>h.elim) (fun g hg=>by obtain ⟨h1,h2,ae,fr,hc⟩:=ac.out.cells hg;exact .inr ⟨by omega,ae,_,fr,hc,by decide⟩));obtain ⟨g0,g1,g2⟩:=X5.cells;clear d t i C al V M ac Y X5 ah e0 e1 e2 y0 y1;gi_wp2
      have w:=aD.out;go_roundw
      case rel=>exact ⟨k+1,p++[((.slice pu I.length cu:Value),(I,(0:Int)))],f,L',false,by go_num,rfl,by omega,hid (by have:=ay.out;simp;omega),m3,m4,aZ,R,ap,a1,aU,j⟩
      case measure=>simp [intOf];omega
     ·have j:=hid d;clear d i C V M ac Y ah ap R;gi_wp2
      refine bodyPost_ret (results_none rfl _ _ _) rfl ?_;exact ⟨⟨_,rfl⟩,.inr ⟨_,al.out,j.out⟩⟩
  ·obtain rfl:k=hs.length:=by omega
   have t1:decide ((hs.length:Int)<(hs.length:Int))=false:=by simp
   have t2:decide (hs.length<hs.length)=false:=by simp
   have F:=HF.out;rw [ZBt] at F;dsimp only at F;rw [XI] at F;subst F;have ag:p.length<4097:=by have:=ay.out;omega
   obtain ⟨NL,aw⟩:=Xn L.length;rw [aw] at y0;have O:Hid (L≠[]↔0<NL):=hid (by rw [<- aw,Xac]);clear w HF HL aw HO HR aK ab;cases o with
   | true =>
     have c:=m.out;dsimp only at c;rw [Xe (.inl rfl),<- G.out] at c;obtain ⟨fn,tmps,assign,body,C,r⟩:=HY.out p (.slice none 0 0,([],120)) wr X.out ⟨by simp,(fun h=>by cases h),(ZD.nil_ _ _).src⟩ ag;dsimp only [Zut] at C;have i:=hid r;have s:Hid ((p++[((.slice none 0 0:Value),(([]:List Zo),(120:Int)))]).map (·.2)=ZcO b):=hid (by rw [c,XN];rfl);clear c r O;gi_wp2
     refine i.out.mono ?_;rintro e w5 (⟨rfl,d,t⟩|⟨rfl,d⟩)
     ·have j:=hid d;clear d t i C;gi_wp2
      go_end0
      exact ⟨⟨_,rfl⟩,.inl ⟨_,s.out,j.out⟩⟩
     ·have j:=hid d;clear d i C;gi_wp2
      go_end0
      exact ⟨⟨_,rfl⟩,.inr ⟨_,⟨(ZcO b).length,by rw [s.out,XC]⟩,j.out⟩⟩
   | false =>
     by_cases H:0<NL
     ·have u1:decide ((NL:Int)>0)=true:=Xt;have u2:decide (0<NL)=true:=Xw H;have c:=m.out;dsimp only at c;rw [Xe (.inr (O.out.2 H)),<- G.out] at c;obtain ⟨fn,tmps,assign,body,C,r⟩:=HY.out p (.slice none 0 0,([],120)) wr X.out ⟨by simp,(fun h=>by cases h),(ZD.nil_ _ _).src⟩ ag;dsimp only [Zut] at C;have i:=hid r;have s:Hid ((p++[((.slice none 0 0:Value),(([]:List Zo),(120:Int)))]).map (·.2)=ZcO b):=hid (by rw [c,XN];rfl);clear c r O H;gi_wp2
      refine i.out.mono ?_;rintro e w5 (⟨rfl,d,t⟩|⟨rfl,d⟩)
      ·have j:=hid d;clear d t i C;gi_wp2
       go_end0
       exact ⟨⟨_,rfl⟩,.inl ⟨_,s.out,j.out⟩⟩
      ·have j:=hid d;clear d i C;gi_wp2
       go_end0
       exact ⟨⟨_,rfl⟩,.inr ⟨_,⟨(ZcO b).length,by rw [s.out,XC]⟩,j.out⟩⟩
     ·have u1:decide ((NL:Int)>0)=false:=Xf;have u2:decide (0<NL)=false:=XB H;have c:=m.out;dsimp only at c;rw [Xa (fun h=>h.elim (fun h=>by cases h) fun h=>H (O.out.1 h)),<- G.out,XI] at c;have s:=hid c;clear c H O;gi_wp2
      go_end0
      exact ⟨⟨_,rfl⟩,.inl ⟨p,s.out.symm,X.out⟩⟩
open RF (Znw Zdr Zh1 Ze5 Zwv Zpj)
variable {D:Nat} {T:Nat->Prop} {W W' w:World} {v:Value} {t:TypeId}
attribute [local go_sem] Oper.semAt_some
theorem ZB7 (n:Nat) (p:Option Addr) (m c:Nat) (W:World) :
  CallsIn Fence.wide n prog 101 #[.slice p m c] W fun e B=>e=.returned (.func (.func 156) #[] #[.pointer (some ⟨W.heap.size,0,none⟩)])/\B=W.alloc (.cells #[.slice p m c] 23):=by
 refine callsIn_of_wp func101 rfl trivial ?_ rfl;simp only [ntmps101,Xat,Xh,Xm,Nat.reduceAdd,Nat.reduceSub,XaB,XaC,XaD,XaE,Xz,XJ];gi_wp2
 go_ret;exact ⟨rfl,rfl⟩
theorem ZrI (n:Nat) (i:1<=n) (c D:Nat) (T:Nat->Prop) (v:Value) (b:Xu) (w:World) (a:b.length<=10000000000) (m:∀k,T k->k<D) (f:w.cell? ⟨c,0,none⟩=some v) (d:c<w.heap.size) (l:BOn T w v b) :
  Znw Fence.wide n prog 156 #[.pointer (some ⟨c,0,none⟩)] Zut T D 59 230 (ZB4 D) (fun q=>q.map (·.2)=ZcO b) (fun pre=>∃k,pre.map (·.2)=(ZcO b).take k) 4097 w :=
 fun y J j W e o r _ g h=>Zub n i y c D T v b J j r g W o m ((e.cell (p:=⟨c,0,none⟩) d).trans f) (l.below e) h a
def ZjH (pre:List Part):List Zo:=(pre.map (·.2.1)).flatten
theorem Zny (pre:List Part) (x:Part):ZjH (pre++[x])=ZjH pre++x.2.1:=by unfold ZjH;simp
def ZrA (w:World) (D:Nat) (pre:List Part) (W:World):Prop :=
 ∃v,Boxed W (w.heap.size+2) 22 v/\Zz ZA 59 D (Zei D W) W v (ZjH pre)/\(∀x∈pre,x.2.2=0)/\Boxed W w.heap.size 22 (.slice none 0 0)/\Boxed W (w.heap.size+1) 26 (.int .i64 0)/\Below w.heap.size w W/\(ZjH pre).length<=16*pre.length/\D<=W.heap.size
def Zt0 (w:World) (pre:List Part) (W:World):Prop :=
 ∃x∈pre,x.2.2≠0/\Boxed W w.heap.size 22 (.slice none 0 0)/\Boxed W (w.heap.size+1) 26 (.int .i64 x.2.2)/\Below w.heap.size w W
theorem ZdF {es:List Zo} (h:Zz ZA 59 D (Zei D W) W v es) (c:Kep T W W') (d:∀b,Zei D W b->T b) (e:∀g,v.ownBlock=some g->T g):Zz ZA 59 D (Zei D W') W' v es :=
 (h.keep c (fun b _ a=>d b a) e).weak fun b _ a=>⟨a.1,a.2.keep c (d b a)⟩
theorem Zar {B:Nat} (h:Boxed W B t v) (b:Kep T W W') (a:T B):Boxed W' B t v:=(b.block B h.lt a).trans h
theorem Zoc {pre:List Part} (h:ZrA w D pre W) (hD:w.heap.size+3<=D) (c:Kep T W W') (d:∀b,b<D->T b) (f:∀b a t fr,W.heap[b]? = some (.cells a t fr)->t≠230->T b):ZrA w D pre W':=by
 obtain ⟨v,m,j,o,s,p,i,u,r⟩:=h;have hs:=i.size;refine ⟨v,Zar m c (d _ (by omega)),ZdF j c (fun b q => ?_) (fun g l => ?_),o,Zar s c (d _ (by omega)),Zar p c (d _ (by omega)),i.trans (c.below hs fun k n=>d k (by omega)),u,Xx r c.size⟩
 ·obtain ⟨_,a,fr,e⟩:=q;exact f b a _ fr e (by decide)
 ·obtain ⟨_,_,a,fr,e⟩:=j.cells l;exact f g a _ fr e (by decide)
theorem Zod {pre:List Part} (h:Zt0 w pre W) (hD:w.heap.size+3<=D) (c:Kep T W W') (d:∀b,b<D->T b):Zt0 w pre W':=by
 obtain ⟨x,i,a,j,g,e⟩:=h;have hs:=e.size;exact ⟨x,i,a,Zar j c (d _ (by omega)),Zar g c (d _ (by omega)),e.trans (c.below hs fun k f=>d k (by omega))⟩
theorem Zo8 {row:Option Nat} (g:W.grownBy W' row) (d:∀r,row=some r->D<=r/\∃o:Obj,W.heap[r]? = some o/\o.isCells=false) :
  Kep (fun b=>row≠some b) W W'/\(∀b,b<D->row≠some b)/\(∀b a t fr,W.heap[b]? = some (.cells a t fr)->row≠some b):=by
 refine ⟨ZM g fun k j c=>c j,fun b hb e=>by have:=(d b e).1;omega,fun b a t fr h e => ?_⟩;obtain ⟨_,o,f,i⟩:=d b e;rw [h] at f;cases f
 cases i
theorem ZxU (w:World) (D:Nat) (i:w.heap.size+3<=D):OwnFrom D (ZrA w D):=fun pre W W' row h d f=>by
 obtain ⟨c,g,j⟩:=Zo8 d f;exact Zoc h i c g fun b a t fr e _=>j b a t fr e
theorem ZxV (w:World) (D:Nat) (e:w.heap.size+3<=D):OwnFrom D (Zt0 w):=fun pre W W' row h b c=>by
 obtain ⟨a,d,k3⟩:=Zo8 b c;exact Zod h e a d
theorem Zqj {b:Nat} (h:b<D):Zh1 D 230 W b:=fun ⟨h1,_⟩=>by omega
theorem ZxA {b:Nat} {a:Array Value} {fr:Nat×Nat} (h:W.heap[b]? = some (.cells a t fr)) (f:t≠230):Zh1 D 230 W b:=fun ⟨_,d,e,c⟩=>by
 rw [h] at c;simp only [Xv,Obj.cells.injEq] at c;exact f c.2.1
theorem Zsf (w:World) (D:Nat) (f:w.heap.size+3<=D):Zdr D 230 (ZrA w D):=fun pre A B h g=>Zoc h f g (fun b e=>Zqj e) fun b c t fr a d=>ZxA a d
theorem Zsg (w:World) (D:Nat) (c:w.heap.size+3<=D):Zdr D 230 (Zt0 w):=fun pre A B h a=>Zod h c a (fun b d=>Zqj d)
theorem Zzd {m:List Zo} (h:Zdk ZA (Zei D W) W v m) (i:Kep T W W') (n:∀b a t fr,W.heap[b]? = some (.cells a t fr)->T b):Zdk ZA (Zei D W') W' v m:=by
 have q:∀b,Zei D W b->T b:=fun b c=>by obtain ⟨_,a,fr,e⟩:=c;exact n b a _ fr e
 obtain ⟨p,l,g,rfl,y,x,r,e⟩:=h;refine ⟨p,l,g,rfl,y,x,(r.keep (i.mono fun b c=>q b c) (fun b _ c=>c)).keep (Kep.refl _ _) (fun b _ c=>⟨c.1,c.2.keep i (q b c)⟩),?_⟩;rcases e with e|⟨b,off,rfl,e⟩
 ·exact .inl e
 ·refine .inr ⟨b,off,rfl,fun j u s => ?_⟩;have d:=e j u s;have k:b<W.heap.size:=World.block_lt_of_cell? _ _ d
  have f:T b:=by
   cases hh:W.heap[b]? with
   | none=>simp [World.cell?,hh] at d
   | some o =>
     cases o with
     | cells a t fr=>exact n b a t fr hh
     | _=>simp [World.cell?,hh] at d
  rw [i.cell k f];exact d
theorem Zzw (D d:Nat):OwnFrom d (ZB4 D):=fun x W W' row h b c=>by
 obtain ⟨a,k2,e⟩:=Zo8 b c;exact ⟨h.1,h.2.1,Zzd h.2.2 a e⟩
theorem Zzo {b:Xu} {x:List Zo×Int} (h:x∈ZcO b) (d:x.2≠0):x.2=120/\Zl1 b=none:=by
 unfold ZcO at h;rcases Xak.1 h with h|h
 ·obtain ⟨c,_,rfl⟩:=XY.1 h;exact absurd rfl d
 ·by_cases a:(Zc0 b).2.2=true\/(Zc0 b).2.1≠[]
  ·rw [Xe a,XaF] at h;subst h;unfold Zl1;exact ⟨rfl,Xe a⟩
  ·rw [Xa a] at h;simp at h
theorem ZvY {b:Xu} {a:List Part} (h:a.map (·.2)=ZcO b) (i:∀x∈a,x.2.2=0):Zl1 b=some (ZjH a):=by
 by_cases d:(Zc0 b).2.2=true\/(Zc0 b).2.1≠[]
 ·have f:(([]:List Zo),(120:Int))∈ZcO b:=by
   unfold ZcO;rw [Xe d];exact List.mem_append_right _ (by simp)
  rw [<- h] at f;obtain ⟨x,g,j⟩:=XY.1 f;have:=i x g;rw [j] at this;cases this
 ·unfold Zl1;rw [Xa d];unfold ZcO at h;rw [Xa d,XI] at h;unfold ZjH;have e:a.map (·.2.1)=(a.map (·.2)).map (·.1):=by rw [List.map_map];rfl
  rw [e,h,List.map_map];have:(fun c:List Zo=>c)=(fun x:List Zo×Int=>x.1) ∘ (fun c=>(c,(0:Int))):=rfl;rw [<- this,List.map_id']
theorem Zvi {a:World} {es:List Zo} (h:Zz ZA 59 D (Zei D W) W v es) (c:W.grownBy a v.ownBlock):KeepsOthers W a :=
 KeepsOthers.of_grownBy c fun j o e b=>by
  obtain ⟨_,_,f,fr,d⟩:=h.cells e;rw [d] at b;cases b
  rfl
attribute [local go_sem] Oper.semAt_some
def ZC3 (o:Option (List Zo)):Int:=if o.isSome then 0 else 120
def ZBY (o:Option (List Zo)) (w:World) (e:Ending) (w':World):Prop :=
 ∃u,e=.returned (.tuple #[u,.int .i64 (ZC3 o)])/\Zaa w.heap.size w' u (o.getD [])/\Below w.heap.size w w'
theorem Zyx {B D:Nat} {w:World} {v:Value} {a:List Zo} (h:Zz ZA 59 D (Zei D w) w v a) (c:B<=D):Zaa B w v a:=Zaa.base ⟨Zei D w,fun b d=>d,h⟩ c
theorem ZAh (v:Value) (b:Xu) (w:World) (h:Zq w v b) (hl:b.length<=10000000000):Calls prog 49 #[v] w (ZBY (Zek b) w):=by
 rw [<- Zun (by omega)];obtain ⟨p,d,rfl,aY,aZ⟩:=Z3.shape h;obtain ⟨R,a⟩:=Xn w.heap.size;have HB:=hid (BOn.of_in h (Xc _));clear h;refine (callsIn_wide (n:=5)).1 ?_;refine callsIn_of_wp_marks func49 rfl trivial ?_ rfl;simp only [ntmps49,Xat,Xh,Xm,Nat.reduceAdd,Nat.reduceSub,XaB,XaC,XaD,XaE,Xz,XJ];gi_wp2
 refine ⟨trivial,(ZB7 4 p b.length d _).mono ?_⟩;rintro e w5 ⟨rfl,rfl⟩;have b0:=Boxed.new w 22 (.slice none 0 0);have b1:=Boxed.new (w.alloc (.cells #[.slice none 0 0] 22)) 26 (.int .i64 0);have b2:=Boxed.new ((w.alloc (.cells #[.slice none 0 0] 22)).alloc (.cells #[.int .i64 0] 26)) 22 (.slice none 0 0);have b3:=Boxed.new (((w.alloc (.cells #[.slice none 0 0] 22)).alloc (.cells #[.int .i64 0] 26)).alloc (.cells #[.slice none 0 0] 22)) 23 (.slice p b.length d);simp only [World.size_alloc] at b1 b2 b3
 have ax:Below w.heap.size w ((((w.alloc (.cells #[.slice none 0 0] 22)).alloc (.cells #[.int .i64 0] 26)).alloc (.cells #[.slice none 0 0] 22)).alloc (.cells #[.slice p b.length d] 23)) :=
  ((((Below.refl _ w).alloc (Xc _) _).alloc (by simp) _).alloc (by simp;omega) _).alloc (by simp;omega) _
 have aU:((((w.alloc (.cells #[.slice none 0 0] 22)).alloc (.cells #[.int .i64 0] 26)).alloc (.cells #[.slice none 0 0] 22)).alloc (.cells #[.slice p b.length d] 23)).heap.size=R+4:=by simp [a]
 have c0:=((b0.alloc (.cells #[.int .i64 0] 26)).alloc (.cells #[.slice none 0 0] 22)).alloc (.cells #[.slice p b.length d] 23);have c1:=(b1.alloc (.cells #[.slice none 0 0] 22)).alloc (.cells #[.slice p b.length d] 23);have c2:=b2.alloc (.cells #[.slice p b.length d] 23);clear b0 b1 b2;generalize ((((w.alloc (.cells #[.slice none 0 0] 22)).alloc (.cells #[.int .i64 0] 26)).alloc (.cells #[.slice none 0 0] 22)).alloc (.cells #[.slice p b.length d] 23))=l at *;simp only [a] at c0 c1 c2 b3 ⊢;have M:ZrA w l.heap.size [] l:=⟨.slice none 0 0,by rw [a];exact c2,Zz.nil_ _ _ _ _,by simp,by rw [a];exact c0,by rw [a];exact c1,ax,by simp [ZjH],Xc _⟩;obtain ⟨T,hT⟩:∃T:Nat->Prop,(fun k=>k<R\/k=R+3)=T:=⟨_,rfl⟩;have ae:∀k,T k↔(k<R\/k=R+3):=fun k=>by rw [<- hT]
 have aj:∀k,T k->k<l.heap.size:=fun k f=>by rw [ae] at f;omega
 have ag:BOn T l (.slice p b.length d) b:=((HB.out.keep (T:=fun k=>k<R) (Ziu (a▸ax)) (fun k _ f=>by show k<R;omega)).weak fun k _ f=>(ae k).2 (.inl f));have m:=hid (ZrI 4 (by omega) (R+3) l.heap.size T _ b l hl aj b3.cell (by omega) ag);have aQ:=hid ae;have ac:w.heap.size+3<=l.heap.size:=by omega
 clear hT ae c0 c1 c2 b3 ax HB ag;gi_wp2
 refine Zpj rfl (by omega) (gf:=156) (lb:=#[.pointer (some ⟨R+1+1+1,0,none⟩)]) rfl trivial (enters_of func156 (by kernel_rfl) rfl)
  m.out (Below.refl _ _) aj (fun _=>rfl)
  (ZrA w l.heap.size) (Zt0 w) (ZxU w _ ac) (ZxV w _ ac) (Zsf w _ ac) (Zsg w _ ac) (Zzw _ _) M
  (fun x=>{ tmps:=#[.slice p b.length d,undef,.pointer (some ⟨R,0,none⟩),.pointer (some ⟨R+1,0,none⟩),.pointer (some ⟨R+1+1,0,none⟩),x.1,.int .i64 x.2.2,.slice p b.length d,
   .func (.func 156) #[] #[.pointer (some ⟨R+1+1+1,0,none⟩)],x.1,.int .i64 x.2.2,undef,undef,undef,undef,undef,undef,undef],defers:=[] }) ?assign ?body ?done ?stop
 case assign =>
  intro y x W K hK;gi_wp2
  exact hK
 case body =>
  rintro y pre ⟨xv,ds,er⟩ W ⟨v,bL,X,a1,r,q,E,ln,hd⟩ ⟨v1,v2,v3⟩ aJ;dsimp only at v1 v2 v3 ⊢;have H:=E.size;have cL:W.cell? ⟨R+1+1,0,none⟩=some v:=by rw [<- a];exact bL.cell
  have fL:W.frozen? ⟨R+1+1,0,none⟩=false:=by rw [<- a];exact bL.frozen
  have cR:W.cell? ⟨R,0,none⟩=some (.slice none 0 0):=by rw [<- a];exact r.cell
  have fR:W.frozen? ⟨R,0,none⟩=false:=by rw [<- a];exact r.frozen
  have cE:W.cell? ⟨R+1,0,none⟩=some (.int .i64 0):=by rw [<- a];exact q.cell
  have fE:W.frozen? ⟨R+1,0,none⟩=false:=by rw [<- a];exact q.frozen
  by_cases he:er=0
  ·subst he;obtain ⟨L,J,rfl,_⟩:=X.any.shape;obtain ⟨px,cx,rfl⟩:∃p c,xv=.slice p ds.length c:=by obtain ⟨p,c,aX,h,_⟩:=v3;exact ⟨p,c,h⟩
   obtain ⟨F,G⟩:=Xn ((ZjH pre).length);have z:=hid X;rw [G] at z cL;have aw:=hid G;have aP:=hid v3;have aR:=hid (v2 rfl);have ak:Hid (F+ds.length<=16*(pre.length+1)/\pre.length<4097):=hid ⟨by omega,aJ⟩;have ad:=hid (And.intro bL (And.intro r (And.intro q E)));have aO:=hid a1;have aB:=hid hd;rw [G] at ad;clear X v1 v2 v3 a1 ln G cR fR cE fE M m;gi_wp2_with (gi_at_builtin;refine ZjB Zim rfl _ _ rfl l.heap.size (.slice L F J) (ZjH pre) rfl z.out (fun b _ u=>Zgj u.2) (.slice px ds.length cx) ds rfl aP.out aR.out (by rw [aw.out];have:=ak.out;unfold maxLen;omega) (by rw [aw.out];have:=ak.out;omega) aB.out ?_;intro v' S am aA au;have ay:=ad.out.1.not_row (by decide:(22:TypeId)≠59) (z.out.choose_spec.1);have aa:=ad.out.1.kept au ay;have a2:S.cell? ⟨R+1+1,0,none⟩=some (.slice L F J):=(by rw [<- a];exact aa.cell);have aW:S.frozen? ⟨R+1+1,0,none⟩=false:=(by rw [<- a];exact aa.frozen);have aF:=hid am;have a0:=hid aA;have V:=hid au;have aK:=hid aa;obtain ⟨p7,c7,rfl,_⟩:=am.any.shape;clear am aA au ay aa)
   obtain ⟨NV,aG⟩:=Xn ((ZjH pre).length+ds.length);rw [Xd,aG] at aF;rw [aG]
   have D:KeepsFrom l.heap.size W (S.setCell ⟨R+1+1,0,none⟩ (.slice p7 NV c7))/\Kep (Ze5 T l.heap.size 59 W) W (S.setCell ⟨R+1+1,0,none⟩ (.slice p7 NV c7))/\ZrA w l.heap.size (pre++[((.slice px ds.length cx:Value),(ds,(0:Int)))]) (S.setCell ⟨R+1+1,0,none⟩ (.slice p7 NV c7)):=by
    subst a;have aL:¬Ze5 T l.heap.size 59 W (w.heap.size+1+1):=fun h=>h.elim (fun h=>by have:=(aQ.out _).1 h;omega) (fun h=>by have:=h.1;omega)
    have I:Kep (Ze5 T l.heap.size 59 W) W S:=ZM V.out fun k f hT=>by
     obtain ⟨h1,h2,B,fr,hc⟩:=z.out.cells f;rcases hT with h|⟨_,aT,t,aV,ap,j⟩
     ·have:=aj k h;omega
     ·rw [hc] at ap;simp only [Xv,Obj.cells.injEq] at ap;exact j ap.2.1.symm
    have ko:Kep (fun b=>(Value.slice L F J).ownBlock≠some b) W S:=ZM V.out fun k f j=>j f;have ar:∀b,(Value.slice L F J).ownBlock=some b->l.heap.size<=b:=fun b u=>(z.out.cells u).1;obtain ⟨bL,r,q,E⟩:=ad.out;have o2:Zz ZA 59 l.heap.size (Zei l.heap.size S) S (.slice p7 NV c7) (ZjH pre++ds):=aF.out.weak fun b _ u=>⟨u.1,u.2.keep ko (Zgk z.out u.2)⟩;have ks:Kep (fun b=>b≠w.heap.size+1+1) S (S.setCell ⟨w.heap.size+1+1,0,none⟩ (.slice p7 NV c7)):=ZbE _;refine ⟨((Zvi z.out V.out).trans (KeepsOthers.setCell _ _ _)).from _,I.trans (Zx aL _),.slice p7 NV c7,aK.out.set _,?_,?_,?_,?_,?_,?_,?_⟩
    ·rw [Zny];exact ZdF o2 ks (fun b u=>by have:=u.1;omega) (fun g hg=>by have:=(o2.cells hg).1;omega)
    ·intro x hx;rcases Xak.1 hx with hx|hx
     ·exact aO.out x hx
     ·rw [XaF] at hx;rw [hx]
    ·exact Zar (Zar r ko (fun e=>by have:=ar _ e;omega)) ks (by omega)
    ·exact Zar (Zar q ko (fun e=>by have:=ar _ e;omega)) ks (by omega)
    ·exact (E.trans (ko.below H fun k f e=>by have:=ar _ e;omega)).trans (ks.below (by have:=V.out.size;omega) fun k f=>by omega)
    ·rw [Zny,Xd,aw.out,Xd];exact ak.out.1
    ·have:=V.out.size;have:=ks.size;have:=aB.out;omega
   exact D
  ·have t1:(er != 0)=true:=by rw [Xaa];exact he
   have D:KeepsFrom l.heap.size W ((W.setCell ⟨R,0,none⟩ (.slice none 0 0)).setCell ⟨R+1,0,none⟩ (.int .i64 er))/\Zt0 w (pre++[(xv,(ds,er))]) ((W.setCell ⟨R,0,none⟩ (.slice none 0 0)).setCell ⟨R+1,0,none⟩ (.int .i64 er)):=by
    subst a;have I:Kep (fun b=>b≠w.heap.size) W (W.setCell ⟨w.heap.size,0,none⟩ (.slice none 0 0)):=ZbE _;have k2:Kep (fun b=>b≠w.heap.size+1) (W.setCell ⟨w.heap.size,0,none⟩ (.slice none 0 0)) ((W.setCell ⟨w.heap.size,0,none⟩ (.slice none 0 0)).setCell ⟨w.heap.size+1,0,none⟩ (.int .i64 er)):=ZbE _;refine ⟨((KeepsOthers.setCell _ _ _).trans (KeepsOthers.setCell _ _ _)).from _,(xv,(ds,er)),List.mem_append_right _ (by simp),he,Zar (r.set _) k2 (by omega),(Zar q I (by omega)).set _,(E.trans (I.below H fun k f=>by omega)).trans (k2.below (by have:=I.size;omega) fun k f=>by omega)⟩
   have HE:=hid D;have aH:(W.setCell ⟨R,0,none⟩ (.slice none 0 0)).cell? ⟨R+1,0,none⟩=some (.int .i64 0):=((ZbE (g:=R) (i:=0) (w:=W) (.slice none 0 0)).cell (by have:=q.lt;omega) (by omega) 0).trans cE
   have aE:(W.setCell ⟨R,0,none⟩ (.slice none 0 0)).frozen? ⟨R+1,0,none⟩=false:=by
    have:=(Zar q (ZbE (g:=R) (i:=0) (w:=W) (.slice none 0 0)) (by omega)).frozen;rw [a] at this;exact this
   clear D X v1 v2 v3 a1 ln M m bL r q E;gi_wp2
   exact HE.out
 case done =>
  rintro Y xs W hD hS ⟨v,bL,X,a1,r,q,E,ln,hd⟩ hK;have o:=ZvY hS a1;obtain ⟨L,J,rfl,_⟩:=X.any.shape;obtain ⟨F,G⟩:=Xn ((ZjH xs).length);have H:=E.size;rw [G] at bL X;have cL:W.cell? ⟨R+1+1,0,none⟩=some (.slice L F J):=by rw [<- a];exact bL.cell
  have cR:W.cell? ⟨R,0,none⟩=some (.slice none 0 0):=by rw [<- a];exact r.cell
  have fR:W.frozen? ⟨R,0,none⟩=false:=by rw [<- a];exact r.frozen
  have I:Kep (fun b=>b≠R) W (W.setCell ⟨R,0,none⟩ (.slice L F J)):=ZbE _;obtain ⟨W1,C⟩:=Xn (W.setCell ⟨R,0,none⟩ (.slice L F J));have ab:Boxed W1 (w.heap.size+1) 26 (.int .i64 0):=by rw [<- C];exact Zar q I (by omega)
  have az:Boxed W1 w.heap.size 22 (.slice L F J):=by rw [<- C,<- a];exact r.set _
  have aC:KeepsOthers W W1:=by rw [<- C];exact KeepsOthers.setCell _ _ _
  rw [C] at I;obtain ⟨Z,O⟩:=Xn (W1.setCell ⟨R+1,0,none⟩ (.int .i64 0));have k2:Kep (fun b=>b≠R+1) W1 Z:=by rw [<- O];exact ZbE _
  have an:Boxed Z (w.heap.size+1) 26 (.int .i64 0):=by rw [<- O,<- a];exact ab.set _
  have ao:Boxed Z w.heap.size 22 (.slice L F J):=Zar az k2 (by omega);have aI:KeepsOthers W Z:=aC.trans (by rw [<- O];exact KeepsOthers.setCell _ _ _);have av:=aI.same Y _ hK rfl;have o3:=ZdF (ZdF X I (fun b u=>by have:=u.1;omega) (fun g hg=>by have:=(X.cells hg).1;omega)) k2 (fun b u=>by have:=u.1;omega) (fun g hg=>by have:=(X.cells hg).1;omega);have aD:Below w.heap.size w Z:=(E.trans (I.below H fun k f=>by omega)).trans (k2.below (by have:=I.size;omega) fun k f=>by omega);have k3:Kep (fun b=>b≠Y) Z (Z.putObj Y (.deferred none)):=ZM (grownBy_putObj' Z Y (.deferred none)) fun k f j=>by cases f;exact j rfl
  have U:∀b B t fr,Z.heap[b]? = some (.cells B t fr)->b≠Y:=fun b B t fr hc e=>by rw [e,av] at hc;cases hc
  have o4:=ZdF o3 k3 (fun b u=>by obtain ⟨_,B,fr,hc⟩:=u;exact U b B _ fr hc) (fun g hg=>by obtain ⟨_,_,B,fr,hc⟩:=o3.cells hg;exact U g B _ fr hc);have A:=(Zar ao k3 (U _ _ _ _ ao)).cell;have s:=(Zar an k3 (U _ _ _ _ an)).cell;have N:=aD.trans (k3.below (by have:=I.size;have:=k2.size;omega) fun k f=>by omega);have aH:W1.cell? ⟨R+1,0,none⟩=some (.int .i64 0):=by rw [<- a];exact ab.cell
  have aE:W1.frozen? ⟨R+1,0,none⟩=false:=by rw [<- a];exact ab.frozen
  rw [<- C] at aH aE;have HQ:Hid (ZBY (Zl1 b) w (.returned (.tuple #[.slice L F J,.int .i64 0])) (Z.putObj Y (.deferred none))):=hid (by rw [o];exact ⟨_,rfl,Zyx o4 (by omega),N⟩);have aS:=hid C;have aN:=hid O;have aM:=hid av;rw [a] at A s;have ah:=hid A;have al:=hid s;clear U I k2 k3 ab az aC an ao aI o3 o4 aD N o hS bL r q E X a1 ln C O av A s M m hK;gi_wp2
  rw [aS.out,aN.out];refine ⟨by simp,.inl ⟨_,_,rfl,run_takeDeferred aM.out,?_⟩⟩;refine ⟨.tuple #[.slice L F J,.int .i64 0],?_,HQ.out⟩;have ai:=ah.out;have aq:=al.out;simp [results,Tryz.f49,go_sem,ai,aq]
 case stop =>
  rintro Y pre W hD ⟨k,f⟩ ⟨x,hx,j,r,q,E⟩ hK
  have hm:x.2∈ZcO b:=by
   have:x.2∈pre.map (·.2):=XY.2 ⟨x,hx,rfl⟩;rw [f] at this;exact Xaq this
  obtain ⟨af,o⟩:=Zzo hm j;rw [o];have H:=E.size;rw [af] at q;have k3:Kep (fun b=>b≠Y) W (W.putObj Y (.deferred none)):=ZM (grownBy_putObj' W Y (.deferred none)) fun k f j=>by cases f;exact j rfl
  have A:=(Zar r k3 (by omega)).cell;have s:=(Zar q k3 (by omega)).cell;have N:=E.trans (k3.below H fun k f=>by omega);have HQ:Hid (ZBY none w (.returned (.tuple #[.slice none 0 0,.int .i64 120])) (W.putObj Y (.deferred none))):=hid ⟨_,rfl,Zaa.nil_ _ _,N⟩;rw [a] at A s;have ah:=hid A;have al:=hid s;clear k3 N A s o hm f hx j af r q E M m;gi_wp2
  refine ⟨by simp,.inl ⟨_,_,rfl,run_takeDeferred hK,?_⟩⟩;refine ⟨.tuple #[.slice none 0 0,.int .i64 120],?_,HQ.out⟩;have ai:=ah.out;have aq:=al.out;simp [results,Tryz.f49,go_sem,ai,aq]
end SR
namespace SG
open RowKit MM
open EV (Z8 ZA Zim Zad Zch ZcG)
open SM (Zo Zhc)
open SR (Zei Zgj Zgk ZdF)
variable {v:Value} {B:Nat} {W:World}
theorem Zze {α:Type} {C:Codec α} {S S':Nat->Prop} {w:World} {d:List α} (h:Zdk C S w v d) (i:∀b,b<w.heap.size->S b->S' b):Zdk C S' w v d:=by
 obtain ⟨p,c,a,g,k,j,e,f⟩:=h;exact ⟨p,c,a,g,k,j,e.keep (Kep.refl _ _) i,f⟩
theorem ZyA {w':World} {v':Value} {es:List Zo} {d:Zo} (a:Zz ZA 59 B (Zei B W) W v es) (f:Zz ZA 59 B (Zei B W) w' v' (es++[d])) (e:Kep (fun k=>v.ownBlock≠some k) W w'):Zz ZA 59 B (Zei B w') w' v' (es++[d]) :=
 Zz.weak f fun b _ c=>⟨c.1,c.2.keep e (Zgk a c.2)⟩
theorem own_below {a:World} {es:List Zo} (h:Zz ZA 59 B (Zei B W) W v es) (b:Below W.heap.size W a):Zz ZA 59 B (Zei B a) a v es:=ZdF h (Za (fun _=>True) b) (fun _ _=>trivial) fun _ _=>trivial
theorem ZjO (v:Value) (l:List Zo) (w:World) (a:ZN ZA w v l):Calls prog 66 #[v] w fun e w'=>e=.returned (.int .i64 (l.length:Int))/\w=w':=by
 obtain ⟨p,b,rfl,d,c,_⟩:=a.shape;clear a;go_enter func66,ntmps66;go_wp2_with fail;go_ret;exact ⟨rfl,rfl⟩
theorem ZoT (v:Value) (l:List Zo) (w:World) (hv:ZN ZA w v l) (hF:Zz4 l) (hl:l.length<=65536):Calls prog 58 #[v] w fun e w'=>(∃u,e=.returned u/\ZN ZA w' u l)/\Below w.heap.size w w':=by
 have ac:=hid (fun (k:Nat) (hk:k<l.length) (W:World) (h:ZN ZA W v l)=>Zz7 v l k W h hF hk);obtain ⟨p,af,rfl,ag,ab,_⟩:=hv.shape;unfold maxLen at ab;have HV:=hid hv;have C:Hid (l.take l.length=l):=hid (by rw [XC]);have ad:=hid (fun (n:Nat) (hn:n<l.length)=>XG hn);have H0:Hid (Zz ZA 59 w.heap.size (Zei w.heap.size w) w (.slice none 0 0) (l.take 0)):=hid (Zz.nil_ _ _ _ _);clear hv;go_enter func58,ntmps58;go_wp2_with fail
 go_loopw [3,9] (fun u i wr=>∃k:Nat,k<=l.length/\i=.int .i64 k/\Hid (Zz ZA 59 w.heap.size (Zei w.heap.size wr) wr u (l.take k))/\Hid (Below w.heap.size w wr)) (fun _ i _=>l.length - (intOf i).toNat)
 case atStart=>exact ⟨0,by omega,rfl,H0,hid (Below.refl _ _)⟩
 case round =>
  obtain ⟨k,hk,rfl,D,F⟩:=hrel;clear H0
  by_cases f:k<l.length
  ·have t1:decide ((k:Int)<(l.length:Int))=true:=by simp;omega
   have t2:decide (k<l.length)=true:=Xw f;have t3:(k:Int)<(l.length:Int):=by omega
   have T:=ac.out k f wr (HV.out.below F.out);have q:=ad.out k f;have X:=hid f;obtain ⟨⟨c,⟨t,fs⟩⟩,V⟩:∃d,l[k]=d:=⟨_,rfl⟩;change Calls _ _ _ _ (Zrv (some l[k]) wr) at T;rw [V] at T;change l.take (k+1)=l.take k++[l[k]] at q;rw [V] at q;have HC:=hid T;have aa:(l.take k).length=k:=by rw [Xi];omega
   obtain ⟨ah,ak,E,_⟩:=D.out.any.shape;rw [aa] at E;subst E;have HN:=hid q;clear q V f T;go_wp2_with fail;refine HC.out.mono ?_;rintro e a ⟨u2,rfl,m,r⟩;have m:ZD Z8 (ZcG wr a) a u2 fs:=m;obtain ⟨g,j,rfl,_⟩:=m.shape;have Z:=F.out.size;have x:Below a.heap.size a (a.alloc (.cells #[.int .i64 c,.int .i64 t,.slice g fs.length j] 59)):=(Below.refl _ _).alloc (Xc _) _;have hby:Below a.heap.size a ((a.alloc (.cells #[.int .i64 c,.int .i64 t,.slice g fs.length j] 59)).alloc (.cells #[.int .i64 c,.int .i64 t,.slice g fs.length j] 59)):=x.alloc (by simp) _;have G:=own_below (own_below D.out r) hby;have ai:=r.size;have M:ZA.on (Zei w.heap.size a) a [.int .i64 c,.int .i64 t,.slice g fs.length j] (c,(t,fs)):=Zch.2 ⟨_,rfl,m.weak fun b _ y=>⟨by have:=y.1;omega,y.2⟩⟩;have J:=Za (fun _=>True) x;have o:=Zby 59 (w:=a.alloc (.cells #[.int .i64 c,.int .i64 t,.slice g fs.length j] 59)) (S:=Zei w.heap.size (a.alloc (.cells #[.int .i64 c,.int .i64 t,.slice g fs.length j] 59))) (ZA.keep M (Za _ x) fun b y h=>⟨h.1,h.2.keep J trivial⟩);have H:=Zr (fun _=>True) (a.alloc (.cells #[.int .i64 c,.int .i64 t,.slice g fs.length j] 59)) (.cells #[.int .i64 c,.int .i64 t,.slice g fs.length j] 59);rw [World.size_alloc] at o;have R:=hid (Zze o (S':=Zei w.heap.size ((a.alloc (.cells #[.int .i64 c,.int .i64 t,.slice g fs.length j] 59)).alloc (.cells #[.int .i64 c,.int .i64 t,.slice g fs.length j] 59))) fun b _ y=>⟨y.1,y.2.keep H trivial⟩);have s:=hid G;have L:=hid (F.out.trans ((r.mono Z).trans (hby.mono (by omega))));have aj:(l.take k).length+1<=100000:=by omega
   clear m r x hby G M J o H HC D F;have N:w.heap.size<=((a.alloc (.cells #[.int .i64 c,.int .i64 t,.slice g fs.length j] 59)).alloc (.cells #[.int .i64 c,.int .i64 t,.slice g fs.length j] 59)).heap.size:=L.out.size;have Y:=hid N;clear N;go_wp2_with (at_builtin;go_loud (refine Zf Zim rfl _ _ rfl w.heap.size _ (l.take k) rfl s.out (fun b _ y=>Zgj y.2) _ [(c,(t,fs))] rfl R.out (by unfold maxLen;simp only [Xaf];omega) (by simp only [Xaf];omega) Y.out ?_))
   intro v5 w5 I O z;have A:=ZyA s.out I z;rw [<- HN.out] at A;have U:=hid A;have ae:=hid (L.out.trans O);clear I O z A;go_wp2_with fail;have f:=X.out;go_roundw
   case rel=>exact ⟨k+1,by omega,by go_num,U,ae⟩
   case measure=>simp [intOf];omega
  ·obtain rfl:k=l.length:=by omega
   have t1:decide ((l.length:Int)<(l.length:Int))=false:=by simp
   have ho:=D.out.any;rw [C.out] at ho;have s:=hid ho;clear D ho;go_wp2_with fail;go_ret;exact ⟨⟨_,rfl,s.out⟩,F.out⟩
