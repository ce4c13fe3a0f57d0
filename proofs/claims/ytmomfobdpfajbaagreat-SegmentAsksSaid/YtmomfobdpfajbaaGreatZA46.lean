import Derived.Test.YtmomfobdpfajbaaGreatZA24
import Derived.Test.YtmomfobdpfajbaaGreatZA45
import Derived.Test.YtmomfobdpfajbaaGreatZA34
set_option maxRecDepth 100000
set_option maxHeartbeats 0
set_option linter.unusedVariables false
set_option linter.unusedSimpArgs false
namespace Go.Proofs.YtmomfobdpfajbaaGreat
open Tryz
namespace SR
open RowKit Go.Shelf MM VM SM
open EV (Zae ZD ZjR ZcB IsF Zej)
open RF (ZnB Zdr Zh4 Ze1)
variable {D:Nat} {w A B:World}
attribute [local go_sem] Oper.semAt_some
abbrev Part:=Value×(List Zq×Int)
abbrev Zu5 (x:Part):Array Value:=#[x.1,.int .i64 x.2.2]
def ZiT (D:Nat) (W:World) (b:Nat):Prop:=D<=b/\IsF W b
def ZCm (D:Nat) (x:Part) (W:World):Prop:=x.2.1.length<=16/\(x.2.2=0->x.2.1≠[])/\Zds ZD (ZiT D W) W x.1 x.2.1
def ZcP (b:Xu):List (List Zq×Int):=(ZcY b).1.map (fun c=>(c,(0:Int)))++if (ZcY b).2.2=true\/(ZcY b).2.1≠[] then [([],120)] else []
theorem Ztr {v:Value} {a:List Zq} (h:Zaa D w v a):Zds ZD (ZiT D w) w v a:=by
 obtain ⟨S,o,d,l,p⟩:=h;rcases l.2 with ⟨rfl,n⟩|⟨g,c,i,rfl,hg,r,e,k,hs,f⟩
 ·have:a=[]:=XP n;subst this;exact (ZB.nil_ _ _).src
 ·refine ⟨some ⟨g,0,none⟩,c,d,rfl,e,(fun h=>by cases h),p.keep (Kep.refl _ _) (fun b _ q=>o b q),.inr ⟨g,0,rfl,fun j u m => ?_⟩⟩;have:=Lib.cells_of_row r (a.length*ZD.size) j u (by rw [f];exact m);rw [ZZ] at this;exact this
theorem Zxd (h:ZfX) (a:Int) (l:Xu) (o:Bool) (hn:0<=h.1) (e:h.1<=16):(Za9 h a l o).2.2=false->(Za9 h a l o).1.length<=16:=by
 intro b;unfold Za9 at b ⊢
 by_cases d:(l.length:Int)<h.2.2
 ·rw [Xe d] at b;cases b
 ·rw [Xc d] at b ⊢;dsimp only at b ⊢
  by_cases c:(Zad h.1.toNat a (l.take h.2.2.toNat) false).2.2.2=true\/(Zad h.1.toNat a (l.take h.2.2.toNat) false).2.2.1≠[]\/(Zad h.1.toNat a (l.take h.2.2.toNat) false).2.1≠h.2.1
  ·rw [Xe c] at b;cases b
  ·rw [Xc c];dsimp only
   have f:(Zad h.1.toNat a (l.take h.2.2.toNat) false).2.2.2=false:=by
    cases hc:(Zad h.1.toNat a (l.take h.2.2.toNat) false).2.2.2 with
    | false=>rfl
    | true=>exact absurd (.inl hc) c
   have:=(ZjT _ _ _ _ f).2.1;omega
theorem ZkN:∀(f n:Nat) (l:Xu) (o:Bool),(ZW f n l o).1.length<=f
 | 0,_,_,_=>by simp [ZW]
 | f+1,n,l,o=>by
   rw [ZW]
   by_cases a:n=0
   ·rw [Xe a];simp
   ·rw [Xc a];have:=ZkN f (n - 16) (Ze (Ze 1099511627776 l o).2.1.length (Ze 1099511627776 l o).2.1 (Ze 1099511627776 l o).2.2).2.1 (Ze (Ze 1099511627776 l o).2.1.length (Ze 1099511627776 l o).2.1 (Ze 1099511627776 l o).2.2).2.2;dsimp only;rw [Xh];omega
theorem Zmo:∀(f n:Nat) (l:Xu) (o:Bool),(ZW f n l o).2.1.length<=l.length
 | 0,_,_,_=>by simp [ZW]
 | f+1,n,l,o=>by
   rw [ZW]
   by_cases a:n=0
   ·rw [Xe a];exact Xa _
   ·rw [Xc a];have e1:=Zci 1099511627776 l o;have e2:=Zci (Ze 1099511627776 l o).2.1.length (Ze 1099511627776 l o).2.1 (Ze 1099511627776 l o).2.2;have:=Zmo f (n - 16) (Ze (Ze 1099511627776 l o).2.1.length (Ze 1099511627776 l o).2.1 (Ze 1099511627776 l o).2.2).2.1 (Ze (Ze 1099511627776 l o).2.1.length (Ze 1099511627776 l o).2.1 (Ze 1099511627776 l o).2.2).2.2;dsimp only;omega
theorem Zxe (h:ZfX) (a:Int) (l:Xu) (o:Bool):(Za9 h a l o).2.1.length<=l.length:=by
 unfold Za9
 split
 ·simp
 ·dsimp only
  split
  ·simp
  ·rw [Xp];omega
theorem Zzu (hs:List ZfX) (a:Int) (l:Xu) (o:Bool) {k:Nat} (b:k<hs.length):ZbI (hs.drop k) a l o =
  if (Za9 hs[k] a l o).2.2=true then ([],(Za9 hs[k] a l o).2.1,true) else
  ((Za9 hs[k] a l o).1::(ZbI (hs.drop (k+1)) hs[k].2.1 (Za9 hs[k] a l o).2.1 (Za9 hs[k] a l o).2.2).1,(ZbI (hs.drop (k+1)) hs[k].2.1 (Za9 hs[k] a l o).2.1 (Za9 hs[k] a l o).2.2).2):=by
 rw [X7 b,ZbI]
theorem ZBN (hs:List ZfX) (a:Int) (l:Xu) (o:Bool):ZbI (hs.drop hs.length) a l o=([],l,o):=by rw [Xaf,ZbI]
theorem Rd.cells {S:Nat->Prop} {g:Nat} {l:Xu} {o:Bool} (h:Rd S w g l o):∃p c,w.cell? ⟨g,0,none⟩=some (.slice p l.length c)/\w.cell? ⟨g,1,none⟩=some (.bool o)/\∃b fr,w.heap[g]? = some (.cells b 230 fr):=by
 obtain ⟨v,a,d⟩:=h;obtain ⟨p,c,rfl,_⟩:=d.shape;exact ⟨p,c,by rw [cell_of_row w g 0 _ _ _ a];rfl,by rw [cell_of_row w g 1 _ _ _ a];rfl,_,_,a⟩
theorem Zt4 {q:Nat} (h:Kep (fun b=>b≠q) A B) (hD:D<=q) (d:∃a fr,A.heap[q]? = some (.cells a 230 fr)):Kep (Zh4 D 230 A) A B :=
 h.mono fun b c e=>c ⟨by omega,by rw [e];exact d⟩
theorem Zmd (h:Below A.heap.size A B):Kep (Zh4 D 230 A) A B:=Za _ h
end SR
namespace SR
open RowKit Go.Shelf MM VM SM
open EV (Zae ZD ZjR ZcB IsF Zej)
open RF (ZnB Zdr Zh4 Ze1)
variable {b:Xu}
attribute [local go_sem] Oper.semAt_some
theorem ZzJ {hs:List ZfX} {d:Xu} {f:Bool} {a:List (List Zq)×Xu×Bool} (g:ZW 4096 (Ze 65536 b false).1 (Ze 65536 b false).2.1 (Ze 65536 b false).2.2=(hs,d,f)) (h:ZbI hs 0 d f=a) :
  ZcP b=a.1.map (fun c=>(c,(0:Int)))++if a.2.2=true\/a.2.1≠[] then [([],120)] else []:=by
 have e:ZcY b=a:=by
  unfold ZcY;dsimp only;rw [g];exact h
 subst e;rfl
def Zr1 (a:List Part):Prop:=a.map (·.2)=(a.map (·.2.1)).map fun c=>(c,(0:Int))
theorem Zr1.snoc {a:List Part} (h:Zr1 a) (u:Value) (c:List Zq):Zr1 (a++[(u,(c,0))]):=by
 unfold Zr1 at h ⊢;simp only [XM,h];rfl
theorem Zwt {P:List Part} {r:List (List Zq)} {E:List (List Zq×Int)} (h:ZcP b=(P.map (·.2.1)++r).map (fun c=>(c,(0:Int)))++E) (hf:Zr1 P):P.map (·.2)=(ZcP b).take P.length:=by
 unfold Zr1 at hf;rw [h,XM,Xk,hf,List.take_left' (by simp)]
theorem ZuM (n:Nat) (hn:1<=n) (y bb D:Nat) (T:Nat->Prop) (v0:Value) (b:Xu) (J Jx:List Part->World->Prop) (hJ:Zdr D 230 J)
  (hY:∀pre x A,J pre A->ZCm D x A->pre.length<4097->YieldAt Fence.wide (n - 1) prog y (Zu5 x) A fun e B =>
   (e=.returned (.bool true)/\J (pre++[x]) B/\Kep (Ze1 T D 59 A) A B)\/(e=.returned (.bool false)/\Jx (pre++[x]) B))
  (W:World) (hD:D<=W.heap.size) (hT:∀k,T k->k<D) (a8:W.cell? ⟨bb,0,none⟩=some v0) (hb:BOn T W v0 b) (h0:J [] W) (a5:b.length<=10000000000) :
  CallsIn Fence.wide n prog 156 #[.func (.yield y) #[] #[],.pointer (some ⟨bb,0,none⟩)] W fun e B=>(∃v,e=.returned v) /\
   ((∃m,m.map (·.2)=ZcP b/\J m B)\/(∃pre,(∃k,pre.map (·.2)=(ZcP b).take k)/\Jx pre B)):=by
 obtain ⟨p0,aC,rfl,a7,bc⟩:=hb.shape;obtain ⟨q,hq⟩:=Xn W.heap.size;have aA:D<=q:=by omega
 have aX:¬T q:=fun h=>by have:=hT q h;omega
 obtain ⟨w1,af⟩:=Xn (W.alloc (.cells #[.slice p0 b.length aC,.bool false] 230));have au:Below W.heap.size W w1:=by rw [<- af];exact (Below.refl _ _).alloc (Xa _) _
 have aY:w1.heap.size=q+1:=by rw [<- af,<- hq];simp
 have U:Rd T w1 q b false:=⟨_,by rw [<- af,<- hq];exact heap_alloc_new _ _,hb.below au⟩;have aR:=hJ [] W w1 h0 (Zmd au);have hH:=Zj6 T q b false w1 U aX (fun k hk=>by have:=hT k hk;omega) (by omega);have E:=Zj7 4096 (Ze 65536 b false).1 (Ze 65536 b false).2.1 (Ze 65536 b false).2.2;have an:=ZkN 4096 (Ze 65536 b false).1 (Ze 65536 b false).2.1 (Ze 65536 b false).2.2;have Z:=Zmo 4096 (Ze 65536 b false).1 (Ze 65536 b false).2.1 (Ze 65536 b false).2.2;have aE:=Zci 65536 b false;obtain ⟨hs,l2,o2,aB⟩:∃hs l2 o2,ZW 4096 (Ze 65536 b false).1 (Ze 65536 b false).2.1 (Ze 65536 b false).2.2=(hs,l2,o2):=⟨_,_,_,rfl⟩;rw [aB] at hH E an Z;dsimp only at E an Z;obtain ⟨ay,hF⟩:=Xn (ZbI hs 0 l2 o2);have r:=Y4 (ZzJ aB hF);have aH:Y5 (((([]:List Part).map (·.2.1))++(ZbI (hs.drop 0) 0 l2 o2).1,(ZbI (hs.drop 0) 0 l2 o2).2)=ay):=Y4 (by rw [<- hF];rfl);have HH:=Y4 hH;have ak:=Y4 (fun x hx=>E x hx);have HY:=Y4 hY;have HJ:=Y4 hJ;have aD:=Y4 U;have aM:=Y4 aR;have aN:=Y4 af;have HT:=Y4 hT;have aT:l2.length<=10000000000:=by omega
 have aV:(Ze 65536 b false).2.1.length<=10000000000:=by omega
 obtain ⟨M1,aK⟩:=Xn ((Ze 65536 b false).2.1.length);rw [aK] at ak aV;clear hH E hY hJ U aR af hF aB hb hT au Z aE aK h0;refine callsIn_of_wp func156 rfl trivial ?_ rfl;simp only [ntmps156,Xar,Xh,Xv,Nat.reduceAdd,Nat.reduceSub,XaD,XaE,XaF,XaG,XE,XK];gi_wp2
 rw [aN.z];refine ⟨trivial,(callsIn_wide.2 HH.z).mono ?_⟩;rintro e w2 ⟨u,rfl,ho,hr,hk⟩;dsimp only at ho hr;rw [aY] at ho;obtain ⟨ph,ch,rfl,be,bd,_⟩:=ho.any.shape;have aJ:=HJ.z [] w1 w2 aM.z (Zt4 hk aA aD.z.cells.choose_spec.choose_spec.2.2);have aS:=Y4 ho;have aF:=Y4 hr;clear ho hr hk aM aD HH aN;gi_wp2
 gi_loopw [4,12] (fun av iv wr=>∃(k:Nat) (m:List Part) (A:Int) (L:Xu) (o:Bool),iv=.int .i64 k/\av=.int .i64 A/\k<=hs.length/\Y5 (m.length=k)/\0<=A/\A<=1099511627776/\Y5 (L.length<=10000000000)/\Y5 (Zr1 m)/\Y5 ((m.map (·.2.1)++(ZbI (hs.drop k) A L o).1,(ZbI (hs.drop k) A L o).2)=ay)/\Y5 (Rd T wr q L o)/\Y5 (ZC ZkK 234 (q+1) (fun _=>False) wr (.slice ph hs.length ch) hs)/\Y5 (J m wr)) (fun _ iv _=>hs.length - (intOf iv).toNat)
 case atStart=>exact ⟨0,[],0,l2,o2,rfl,rfl,by omega,Y4 rfl,by omega,by omega,Y4 aT,Y4 rfl,aH,aF,aS,Y4 aJ⟩
 case round =>
  obtain ⟨k,m,A,L,o,rfl,rfl,hk,ar,a4,a1,HL,G,HF,HR,HO,aa⟩:=hrel;clear aH aF aS aJ;have bf:=HR.z.lt;obtain ⟨pq,cq,y0,y1,M⟩:=HR.z.cells;have aI:=Y4 M
  by_cases w:k<hs.length
  ·have t1:decide ((k:Int)<(hs.length:Int))=true:=Xt;have t2:decide (k<hs.length)=true:=Xs w;have t3:(k:Int)<(hs.length:Int):=by omega
   obtain ⟨bh,oh,rfl,ba,_,c0,c1,c2⟩:=ZAY HO.z.any w;have z:=HF.z;rw [Zzu hs A L o w] at z;have hm:=ak.z hs[k] (XI w);generalize hs[k]=hd at *;obtain ⟨hn,f,sz⟩:=hd;dsimp only at *;obtain ⟨m1,m2,⟨m3,m4⟩,m5,m6⟩:=hm;obtain ⟨nn,rfl⟩:=Xay (show 0<=hn by omega);obtain ⟨zz,rfl⟩:=Xay m2;obtain ⟨qh,a2⟩:=Xn wr.heap.size;obtain ⟨w3,I⟩:=Xn (wr.alloc (.cells #[.int .i64 (nn:Int),.int .i64 f,.int .i64 (zz:Int)] 234));have Y:Below wr.heap.size wr w3:=by rw [<- I];exact (Below.refl _ _).alloc (Xa _) _
   have X3:Y5 (Three w3 qh 234 (.int .i64 (nn:Int)) (.int .i64 f) (.int .i64 (zz:Int))):=Y4 (by rw [<- I,<- a2];exact Zaj wr 234 _ _ _);have aw:=HR.z.below Y;have a9:=Y.size;have hB:=ZuL T q nn zz f A L o w3 aw (fun h=>by have:=HT.z q h;omega) (fun k hk=>by have:=HT.z k hk;omega) (by have:=HL.z;omega) (by omega) (by omega) a4 a1 m3 m4;have ah:=Zxd ((nn:Int),(f,(zz:Int))) A L o (by omega) m5;have ap:=fun h=>Zp4 (h:=((nn:Int),(f,(zz:Int)))) (a:=A) (l:=L) (o:=o) m2 (by omega) h m4;have ad:=Zxe ((nn:Int),(f,(zz:Int))) A L o;obtain ⟨F,L',o',aP⟩:∃F L' o',Za9 ((nn:Int),(f,(zz:Int))) A L o=(F,L',o'):=⟨_,_,_,rfl⟩;rw [aP] at hB z ah ad ap;dsimp only at z ah ad;have HB:=Y4 hB;have aj:=Y4 z;have aG:=Y4 ah;have aW:Y5 (o'=false->F≠[]):=Y4 (fun h e=>by have:=(ap h).2.1;dsimp only at this;rw [e] at this;simp at this;omega);clear ap;have aZ:Y5 (L'.length<=10000000000):=Y4 (by have:=HL.z;omega);have aq:=Y4 (HO.z.keep (Za (fun _=>True) Y) (fun _ _ h=>h.elim) (fun _ _=>trivial));have aQ:=Y4 (HJ.z m wr w3 aa.z (Zmd Y));have al:Y5 (∃X fr,w3.heap[q]? = some (.cells X 230 fr)):=Y4 aw.cells.choose_spec.choose_spec.2.2;have aL:=Y4 I;have aO:=Y4 w;obtain ⟨x0,x1,x2⟩:=X3.z.cells;rw [<- I] at x0 x1 x2;clear I Y aw hB z ah aP ad HF HL HR HO aa aI M y0 y1 w m6;gi_wp2
   rw [aL.z];refine ⟨trivial,(callsIn_wide.2 HB.z).mono ?_⟩;rintro e w4 ⟨u,rfl,ax,ag,S⟩;dsimp only at ax ag;have a6:=S.size;obtain ⟨pq,cq,y0,y1,M⟩:=ag.cells;have x4:=X3.z.keep S (fun e=>by omega);obtain ⟨e0,e1,e2⟩:=x4.cells;have V:=Y4 x4;have a3:=HJ.z m w3 w4 aQ.z (Zt4 S aA al.z);have ai:=Y4 a3;have ae:=Y4 ag;have N:=Y4 (aq.z.keep S (fun _ _ h=>h.elim) (fun g hg e=>by have:=(aq.z.cells hg).1;omega));have R:=Y4 ax;have O:m.length<4097:=by have:=ar.z;have:=aO.z;omega
   clear S ag ax M X3 aQ aq HB aL al x0 x1 x2 c0 c1 c2 x4;cases o' with
   | true =>
     have hf:=aj.z;rw [Xe rfl] at hf;dsimp only at hf;rw [XH] at hf;subst hf;have c:=r.z;dsimp only at c;rw [Xe (.inl rfl),<- G.z] at c;obtain ⟨fn,tmps,assign,body,C,p⟩:=HY.z m (.slice none 0 0,([],120)) w4 ai.z ⟨by simp,(fun h=>by cases h),(ZB.nil_ _ _).src⟩ O;dsimp only [Zu5] at C;have i:=Y4 p;have t:Y5 ((m++[((.slice none 0 0:Value),(([]:List Zq),(120:Int)))]).map (·.2)=ZcP b):=Y4 (by rw [c,XM];rfl);clear c p aj V ae N R;gi_wp2
     refine i.z.mono ?_;rintro e w5 (⟨rfl,d,s⟩|⟨rfl,d⟩)
     ·have j:=Y4 d;clear d s i C;gi_wp2
      go_end0
      exact ⟨⟨_,rfl⟩,.inl ⟨_,t.z,j.z⟩⟩
     ·have j:=Y4 d;clear d i C;gi_wp2
      go_end0
      exact ⟨⟨_,rfl⟩,.inr ⟨_,⟨(ZcP b).length,by rw [t.z,XB]⟩,j.z⟩⟩
   | false =>
     have hf:=aj.z;rw [Xc (by simp)] at hf;dsimp only at hf;obtain ⟨pu,cu,rfl,_⟩:=R.z.any.shape;have az:Y5 (((m++[((.slice pu F.length cu:Value),(F,(0:Int)))]).map (·.2.1)++(ZbI (hs.drop (k+1)) f L' false).1,(ZbI (hs.drop (k+1)) f L' false).2)=ay):=Y4 (by rw [<- hf];simp);have ac:=Y4 (G.z.snoc (.slice pu F.length cu) F);have am:Y5 (∃k,(m++[((.slice pu F.length cu:Value),(F,(0:Int)))]).map (·.2)=(ZcP b).take k):=Y4 ⟨_,Zwt (by rw [r.z,<- az.z]) ac.z⟩;obtain ⟨fn,tmps,assign,body,C,p⟩:=HY.z m (.slice pu F.length cu,(F,0)) w4 ai.z ⟨aG.z rfl,(fun _=>aW.z rfl),Ztr (R.z.base (by omega))⟩ O;dsimp only [Zu5] at C;have i:=Y4 p;clear hf p aj aG G;gi_wp2
     refine i.z.mono ?_;rintro e w5 (⟨rfl,d,s⟩|⟨rfl,d⟩)
     ·have j:=Y4 d;have aU:=Y4 (ae.z.keep s (by obtain ⟨_,_,_,_,X,fr,hc⟩:=ae.z.cells;exact .inr ⟨aA,X,_,fr,hc,by decide⟩) (fun b _ hT=>.inl hT));have X5:=V.z.keep s (.inr ⟨by omega,_,_,_,V.z,by decide⟩);have a0:=Y4 (N.z.keep s (fun _ _ h=>h.elim) (fun g hg=>by obtain ⟨h1,h2,X,fr,hc⟩:=N.z.cells hg;exact .inr ⟨by omega,X,_,fr,hc,by decide⟩));obtain ⟨g0,g1,g2⟩:=X5.cells;clear d s i C am V ae N R X5 ai e0 e1 e2 y0 y1;gi_wp2
      have w:=aO.z;go_roundw
      case rel=>exact ⟨k+1,m++[((.slice pu F.length cu:Value),(F,(0:Int)))],f,L',false,by go_num,rfl,by omega,Y4 (by have:=ar.z;simp;omega),m3,m4,aZ,ac,az,aU,a0,j⟩
      case measure=>simp [intOf];omega
     ·have j:=Y4 d;clear d i C V ae N R ai az ac;gi_wp2
      refine bodyPost_ret (results_none rfl _ _ _) rfl ?_;exact ⟨⟨_,rfl⟩,.inr ⟨_,am.z,j.z⟩⟩
  ·obtain rfl:k=hs.length:=by omega
   have t1:decide ((hs.length:Int)<(hs.length:Int))=false:=by simp
   have t2:decide (hs.length<hs.length)=false:=by simp
   have hf:=HF.z;rw [ZBN] at hf;dsimp only at hf;rw [XH] at hf;subst hf;have O:m.length<4097:=by have:=ar.z;omega
   obtain ⟨NL,ao⟩:=Xn L.length;rw [ao] at y0;have ab:Y5 (L≠[]↔0<NL):=Y4 (by rw [<- ao,Xaa]);clear w HF HL ao HO HR aI M;cases o with
   | true =>
     have c:=r.z;dsimp only at c;rw [Xe (.inl rfl),<- G.z] at c;obtain ⟨fn,tmps,assign,body,C,p⟩:=HY.z m (.slice none 0 0,([],120)) wr aa.z ⟨by simp,(fun h=>by cases h),(ZB.nil_ _ _).src⟩ O;dsimp only [Zu5] at C;have i:=Y4 p;have t:Y5 ((m++[((.slice none 0 0:Value),(([]:List Zq),(120:Int)))]).map (·.2)=ZcP b):=Y4 (by rw [c,XM];rfl);clear c p ab;gi_wp2
     refine i.z.mono ?_;rintro e w5 (⟨rfl,d,s⟩|⟨rfl,d⟩)
     ·have j:=Y4 d;clear d s i C;gi_wp2
      go_end0
      exact ⟨⟨_,rfl⟩,.inl ⟨_,t.z,j.z⟩⟩
     ·have j:=Y4 d;clear d i C;gi_wp2
      go_end0
      exact ⟨⟨_,rfl⟩,.inr ⟨_,⟨(ZcP b).length,by rw [t.z,XB]⟩,j.z⟩⟩
   | false =>
     by_cases H:0<NL
     ·have u1:decide ((NL:Int)>0)=true:=Xt;have u2:decide (0<NL)=true:=Xs H;have c:=r.z;dsimp only at c;rw [Xe (.inr (ab.z.2 H)),<- G.z] at c;obtain ⟨fn,tmps,assign,body,C,p⟩:=HY.z m (.slice none 0 0,([],120)) wr aa.z ⟨by simp,(fun h=>by cases h),(ZB.nil_ _ _).src⟩ O;dsimp only [Zu5] at C;have i:=Y4 p;have t:Y5 ((m++[((.slice none 0 0:Value),(([]:List Zq),(120:Int)))]).map (·.2)=ZcP b):=Y4 (by rw [c,XM];rfl);clear c p ab H;gi_wp2
      refine i.z.mono ?_;rintro e w5 (⟨rfl,d,s⟩|⟨rfl,d⟩)
      ·have j:=Y4 d;clear d s i C;gi_wp2
       go_end0
       exact ⟨⟨_,rfl⟩,.inl ⟨_,t.z,j.z⟩⟩
      ·have j:=Y4 d;clear d i C;gi_wp2
       go_end0
       exact ⟨⟨_,rfl⟩,.inr ⟨_,⟨(ZcP b).length,by rw [t.z,XB]⟩,j.z⟩⟩
     ·have u1:decide ((NL:Int)>0)=false:=Xf;have u2:decide (0<NL)=false:=Xz H;have c:=r.z;dsimp only at c;rw [Xc (fun h=>h.elim (fun h=>by cases h) fun h=>H (ab.z.1 h)),<- G.z,XH] at c;have t:=Y4 c;clear c H ab;gi_wp2
      go_end0
      exact ⟨⟨_,rfl⟩,.inl ⟨m,t.z.symm,aa.z⟩⟩
end SR
namespace SR
open RowKit Go.Shelf MM VM SM
open EV (Zae ZD ZjR ZcB IsF Zej)
open RF (ZnB Zdr Zh4 Ze1 ZwY Zpv)
variable {D:Nat} {T:Nat->Prop} {W W' w:World} {v:Value} {t:TypeId}
attribute [local go_sem] Oper.semAt_some
theorem ZCp (n:Nat) (p:Option Addr) (m c:Nat) (W:World) :
  CallsIn Fence.wide n prog 101 #[.slice p m c] W fun e B=>e=.returned (.func (.func 156) #[] #[.pointer (some ⟨W.heap.size,0,none⟩)])/\B=W.alloc (.cells #[.slice p m c] 23):=by
 refine callsIn_of_wp func101 rfl trivial ?_ rfl;simp only [ntmps101,Xar,Xh,Xv,Nat.reduceAdd,Nat.reduceSub,XaD,XaE,XaF,XaG,XE,XK];gi_wp2
 go_ret;exact ⟨rfl,rfl⟩
theorem Zsd (n:Nat) (l:1<=n) (c D:Nat) (T:Nat->Prop) (v:Value) (b:Xu) (w:World) (a:b.length<=10000000000) (g:∀k,T k->k<D) (f:w.cell? ⟨c,0,none⟩=some v) (d:c<w.heap.size) (r:BOn T w v b) :
  ZnB Fence.wide n prog 156 #[.pointer (some ⟨c,0,none⟩)] Zu5 T D 59 230 (ZCm D) (fun o=>o.map (·.2)=ZcP b) (fun pre=>∃k,pre.map (·.2)=(ZcP b).take k) 4097 w :=
 fun y J m W e q j _ i h=>ZuM n l y c D T v b J m j i W q g ((e.cell (p:=⟨c,0,none⟩) d).trans f) (r.below e) h a
def ZjJ (pre:List Part):List Zq:=(pre.map (·.2.1)).flatten
theorem ZnD (pre:List Part) (x:Part):ZjJ (pre++[x])=ZjJ pre++x.2.1:=by unfold ZjJ;simp
def Zr4 (w:World) (D:Nat) (pre:List Part) (W:World):Prop :=
 ∃v,Boxed W (w.heap.size+2) 22 v/\ZC ZD 59 D (ZiT D W) W v (ZjJ pre)/\(∀x∈pre,x.2.2=0)/\Boxed W w.heap.size 22 (.slice none 0 0)/\Boxed W (w.heap.size+1) 26 (.int .i64 0)/\Below w.heap.size w W/\(ZjJ pre).length<=16*pre.length/\D<=W.heap.size
def Zuz (w:World) (pre:List Part) (W:World):Prop :=
 ∃x∈pre,x.2.2≠0/\Boxed W w.heap.size 22 (.slice none 0 0)/\Boxed W (w.heap.size+1) 26 (.int .i64 x.2.2)/\Below w.heap.size w W
theorem Zey {es:List Zq} (h:ZC ZD 59 D (ZiT D W) W v es) (d:Kep T W W') (c:∀b,ZiT D W b->T b) (e:∀g,v.ownBlock=some g->T g):ZC ZD 59 D (ZiT D W') W' v es :=
 (h.keep d (fun b _ a=>c b a) e).weak fun b _ a=>⟨a.1,a.2.keep d (c b a)⟩
theorem Zar {B:Nat} (h:Boxed W B t v) (b:Kep T W W') (a:T B):Boxed W' B t v:=(b.block B h.lt a).trans h
theorem Zoj {pre:List Part} (h:Zr4 w D pre W) (hD:w.heap.size+3<=D) (c:Kep T W W') (d:∀b,b<D->T b) (j:∀b a t fr,W.heap[b]? = some (.cells a t fr)->t≠230->T b):Zr4 w D pre W':=by
 obtain ⟨v,l,i,o,n,q,f,m,p⟩:=h;have hs:=f.size;refine ⟨v,Zar l c (d _ (by omega)),Zey i c (fun b u => ?_) (fun g r => ?_),o,Zar n c (d _ (by omega)),Zar q c (d _ (by omega)),f.trans (c.below hs fun k s=>d k (by omega)),m,Xy p c.size⟩
 ·obtain ⟨_,a,fr,e⟩:=u;exact j b a _ fr e (by decide)
 ·obtain ⟨_,_,a,fr,e⟩:=i.cells r;exact j g a _ fr e (by decide)
theorem Zok {pre:List Part} (h:Zuz w pre W) (hD:w.heap.size+3<=D) (a:Kep T W W') (d:∀b,b<D->T b):Zuz w pre W':=by
 obtain ⟨x,g,c,f,i,e⟩:=h;have hs:=e.size;exact ⟨x,g,c,Zar f a (d _ (by omega)),Zar i a (d _ (by omega)),e.trans (a.below hs fun k j=>d k (by omega))⟩
theorem Zpj {row:Option Nat} (j:W.grownBy W' row) (d:∀r,row=some r->D<=r/\∃o:Obj,W.heap[r]? = some o/\o.isCells=false) :
  Kep (fun b=>row≠some b) W W'/\(∀b,b<D->row≠some b)/\(∀b a t fr,W.heap[b]? = some (.cells a t fr)->row≠some b):=by
 refine ⟨ZO j fun k g c=>c g,fun b hb e=>by have:=(d b e).1;omega,fun b a t fr h e => ?_⟩;obtain ⟨_,o,f,i⟩:=d b e;rw [h] at f;cases f
 cases i
theorem Zyo (w:World) (D:Nat) (g:w.heap.size+3<=D):OwnFrom D (Zr4 w D):=fun pre W W' row h j d=>by
 obtain ⟨f,i,c⟩:=Zpj j d;exact Zoj h g f i fun b a t fr e _=>c b a t fr e
theorem Zyp (w:World) (D:Nat) (d:w.heap.size+3<=D):OwnFrom D (Zuz w):=fun pre W W' row h e a=>by
 obtain ⟨b,c,k3⟩:=Zpj e a;exact Zok h d b c
theorem ZqD {b:Nat} (h:b<D):Zh4 D 230 W b:=fun ⟨h1,_⟩=>by omega
theorem Zx4 {b:Nat} {a:Array Value} {fr:Nat×Nat} (h:W.heap[b]? = some (.cells a t fr)) (e:t≠230):Zh4 D 230 W b:=fun ⟨_,d,f,c⟩=>by
 rw [h] at c;simp only [Xx,Obj.cells.injEq] at c;exact e c.2.1
theorem ZsJ (w:World) (D:Nat) (f:w.heap.size+3<=D):Zdr D 230 (Zr4 w D):=fun pre A B h d=>Zoj h f d (fun b g=>ZqD g) fun b c t fr e a=>Zx4 e a
theorem ZsK (w:World) (D:Nat) (d:w.heap.size+3<=D):Zdr D 230 (Zuz w):=fun pre A B h c=>Zok h d c (fun b a=>ZqD a)
theorem ZzA {n:List Zq} (h:Zds ZD (ZiT D W) W v n) (f:Kep T W W') (m:∀b a t fr,W.heap[b]? = some (.cells a t fr)->T b):Zds ZD (ZiT D W') W' v n:=by
 have q:∀b,ZiT D W b->T b:=fun b c=>by obtain ⟨_,a,fr,e⟩:=c;exact m b a _ fr e
 obtain ⟨p,i,k,rfl,x,s,y,e⟩:=h;refine ⟨p,i,k,rfl,x,s,(y.keep (f.mono fun b c=>q b c) (fun b _ c=>c)).keep (Kep.refl _ _) (fun b _ c=>⟨c.1,c.2.keep f (q b c)⟩),?_⟩;rcases e with e|⟨b,off,rfl,e⟩
 ·exact .inl e
 ·refine .inr ⟨b,off,rfl,fun j u r => ?_⟩;have d:=e j u r;have g:b<W.heap.size:=World.block_lt_of_cell? _ _ d
  have l:T b:=by
   cases hh:W.heap[b]? with
   | none=>simp [World.cell?,hh] at d
   | some o =>
     cases o with
     | cells a t fr=>exact m b a t fr hh
     | _=>simp [World.cell?,hh] at d
  rw [f.cell g l];exact d
theorem ZzR (D c:Nat):OwnFrom c (ZCm D):=fun x W W' row h e b=>by
 obtain ⟨d,k2,a⟩:=Zpj e b;exact ⟨h.1,h.2.1,ZzA h.2.2 d a⟩
theorem ZzK {b:Xu} {x:List Zq×Int} (h:x∈ZcP b) (d:x.2≠0):x.2=120/\ZlZ b=none:=by
 unfold ZcP at h;rcases Xam.1 h with h|h
 ·obtain ⟨c,_,rfl⟩:=X4.1 h;exact absurd rfl d
 ·by_cases a:(ZcY b).2.2=true\/(ZcY b).2.1≠[]
  ·rw [Xe a,XaJ] at h;subst h;unfold ZlZ;exact ⟨rfl,Xe a⟩
  ·rw [Xc a] at h;simp at h
theorem Zws {b:Xu} {a:List Part} (h:a.map (·.2)=ZcP b) (g:∀x∈a,x.2.2=0):ZlZ b=some (ZjJ a):=by
 by_cases d:(ZcY b).2.2=true\/(ZcY b).2.1≠[]
 ·have f:(([]:List Zq),(120:Int))∈ZcP b:=by
   unfold ZcP;rw [Xe d];exact List.mem_append_right _ (by simp)
  rw [<- h] at f;obtain ⟨x,i,j⟩:=X4.1 f;have:=g x i;rw [j] at this;cases this
 ·unfold ZlZ;rw [Xc d];unfold ZcP at h;rw [Xc d,XH] at h;unfold ZjJ;have e:a.map (·.2.1)=(a.map (·.2)).map (·.1):=by rw [List.map_map];rfl
  rw [e,h,List.map_map];have:(fun c:List Zq=>c)=(fun x:List Zq×Int=>x.1) ∘ (fun c=>(c,(0:Int))):=rfl;rw [<- this,List.map_id']
theorem ZvR {b:World} {es:List Zq} (h:ZC ZD 59 D (ZiT D W) W v es) (f:W.grownBy b v.ownBlock):KeepsOthers W b :=
 KeepsOthers.of_grownBy f fun j o d a=>by
  obtain ⟨_,_,c,fr,e⟩:=h.cells d;rw [e] at a;cases a
  rfl
end SR
namespace SR
open RowKit Go.Shelf MM VM SM
open EV (Zae ZD ZjR ZcB IsF Zej)
open RF (ZnB Zdr Zh4 Ze1 ZwY Zpv)
attribute [local go_sem] Oper.semAt_some
def ZDi (o:Option (List Zq)):Int:=if o.isSome then 0 else 120
def ZCf (o:Option (List Zq)) (w:World) (e:Ending) (w':World):Prop :=
 ∃u,e=.returned (.tuple #[u,.int .i64 (ZDi o)])/\Zaa w.heap.size w' u (o.getD [])/\Below w.heap.size w w'
theorem Zy0 {B D:Nat} {w:World} {v:Value} {a:List Zq} (h:ZC ZD 59 D (ZiT D w) w v a) (c:B<=D):Zaa B w v a:=Zaa.base ⟨ZiT D w,fun b d=>d,h⟩ c
theorem ZAA (v:Value) (b:Xu) (w:World) (h:Zv w v b) (hl:b.length<=10000000000):Calls prog 49 #[v] w (ZCf (ZgL b) w):=by
 rw [<- Zu0 (by omega)];obtain ⟨p,d,rfl,aV,aX⟩:=BIn.shape h;obtain ⟨R,a⟩:=Xn w.heap.size;have HB:=Y4 (BOn.of_in h (Xa _));clear h;refine (callsIn_wide (n:=5)).1 ?_;refine callsIn_of_wp_marks func49 rfl trivial ?_ rfl;simp only [ntmps49,Xar,Xh,Xv,Nat.reduceAdd,Nat.reduceSub,XaD,XaE,XaF,XaG,XE,XK];gi_wp2
 refine ⟨trivial,(ZCp 4 p b.length d _).mono ?_⟩;rintro e w5 ⟨rfl,rfl⟩;have b0:=Boxed.new w 22 (.slice none 0 0);have b1:=Boxed.new (w.alloc (.cells #[.slice none 0 0] 22)) 26 (.int .i64 0);have b2:=Boxed.new ((w.alloc (.cells #[.slice none 0 0] 22)).alloc (.cells #[.int .i64 0] 26)) 22 (.slice none 0 0);have b3:=Boxed.new (((w.alloc (.cells #[.slice none 0 0] 22)).alloc (.cells #[.int .i64 0] 26)).alloc (.cells #[.slice none 0 0] 22)) 23 (.slice p b.length d);simp only [World.size_alloc] at b1 b2 b3
 have am:Below w.heap.size w ((((w.alloc (.cells #[.slice none 0 0] 22)).alloc (.cells #[.int .i64 0] 26)).alloc (.cells #[.slice none 0 0] 22)).alloc (.cells #[.slice p b.length d] 23)) :=
  ((((Below.refl _ w).alloc (Xa _) _).alloc (by simp) _).alloc (by simp;omega) _).alloc (by simp;omega) _
 have aT:((((w.alloc (.cells #[.slice none 0 0] 22)).alloc (.cells #[.int .i64 0] 26)).alloc (.cells #[.slice none 0 0] 22)).alloc (.cells #[.slice p b.length d] 23)).heap.size=R+4:=by simp [a]
 have c0:=((b0.alloc (.cells #[.int .i64 0] 26)).alloc (.cells #[.slice none 0 0] 22)).alloc (.cells #[.slice p b.length d] 23);have c1:=(b1.alloc (.cells #[.slice none 0 0] 22)).alloc (.cells #[.slice p b.length d] 23);have c2:=b2.alloc (.cells #[.slice p b.length d] 23);clear b0 b1 b2;generalize ((((w.alloc (.cells #[.slice none 0 0] 22)).alloc (.cells #[.int .i64 0] 26)).alloc (.cells #[.slice none 0 0] 22)).alloc (.cells #[.slice p b.length d] 23))=l at *;simp only [a] at c0 c1 c2 b3 ⊢;have U:Zr4 w l.heap.size [] l:=⟨.slice none 0 0,by rw [a];exact c2,ZC.nil_ _ _ _ _,by simp,by rw [a];exact c0,by rw [a];exact c1,am,by simp [ZjJ],Xa _⟩;obtain ⟨T,hT⟩:∃T:Nat->Prop,(fun k=>k<R\/k=R+3)=T:=⟨_,rfl⟩;have ae:∀k,T k↔(k<R\/k=R+3):=fun k=>by rw [<- hT]
 have ar:∀k,T k->k<l.heap.size:=fun k f=>by rw [ae] at f;omega
 have ag:BOn T l (.slice p b.length d) b:=((HB.z.keep (T:=fun k=>k<R) (Ziz (a▸am)) (fun k _ f=>by show k<R;omega)).weak fun k _ f=>(ae k).2 (.inl f));have m:=Y4 (Zsd 4 (by omega) (R+3) l.heap.size T _ b l hl ar b3.cell (by omega) ag);have aJ:=Y4 ae;have ad:w.heap.size+3<=l.heap.size:=by omega
 clear hT ae c0 c1 c2 b3 am HB ag;gi_wp2
 refine Zpv rfl (by omega) (gf:=156) (lb:=#[.pointer (some ⟨R+1+1+1,0,none⟩)]) rfl trivial (enters_of func156 (by kernel_rfl) rfl)
  m.z (Below.refl _ _) ar (fun _=>rfl)
  (Zr4 w l.heap.size) (Zuz w) (Zyo w _ ad) (Zyp w _ ad) (ZsJ w _ ad) (ZsK w _ ad) (ZzR _ _) U
  (fun x=>{ tmps:=#[.slice p b.length d,undef,.pointer (some ⟨R,0,none⟩),.pointer (some ⟨R+1,0,none⟩),.pointer (some ⟨R+1+1,0,none⟩),x.1,.int .i64 x.2.2,.slice p b.length d,
   .func (.func 156) #[] #[.pointer (some ⟨R+1+1+1,0,none⟩)],x.1,.int .i64 x.2.2,undef,undef,undef,undef,undef,undef,undef],defers:=[] }) ?assign ?body ?done ?stop
 case assign =>
  intro y x W K hK;gi_wp2
  exact hK
 case body =>
  rintro y pre ⟨xv,Z,er⟩ W ⟨v,bL,X,a1,B,q,E,ln,hd⟩ ⟨v1,v2,v3⟩ aN;dsimp only at v1 v2 v3 ⊢;have G:=E.size;have cL:W.cell? ⟨R+1+1,0,none⟩=some v:=by rw [<- a];exact bL.cell
  have fL:W.frozen? ⟨R+1+1,0,none⟩=false:=by rw [<- a];exact bL.frozen
  have cR:W.cell? ⟨R,0,none⟩=some (.slice none 0 0):=by rw [<- a];exact B.cell
  have fR:W.frozen? ⟨R,0,none⟩=false:=by rw [<- a];exact B.frozen
  have cE:W.cell? ⟨R+1,0,none⟩=some (.int .i64 0):=by rw [<- a];exact q.cell
  have fE:W.frozen? ⟨R+1,0,none⟩=false:=by rw [<- a];exact q.frozen
  by_cases he:er=0
  ·subst he;obtain ⟨J,L,rfl,_⟩:=X.any.shape;obtain ⟨px,cx,rfl⟩:∃p c,xv=.slice p Z.length c:=by obtain ⟨p,c,aY,h,_⟩:=v3;exact ⟨p,c,h⟩
   obtain ⟨H,F⟩:=Xn ((ZjJ pre).length);have r:=Y4 X;rw [F] at r cL;have ap:=Y4 F;have aQ:=Y4 v3;have aR:=Y4 (v2 rfl);have au:Y5 (H+Z.length<=16*(pre.length+1)/\pre.length<4097):=Y4 ⟨by omega,aN⟩;have aa:=Y4 (And.intro bL (And.intro B (And.intro q E)));have aS:=Y4 a1;have aI:=Y4 hd;rw [F] at aa;clear X v1 v2 v3 a1 ln F cR fR cE fE U m;gi_wp2_with (gi_at_builtin;refine ZjE ZjR rfl _ _ rfl l.heap.size (.slice J H L) (ZjJ pre) rfl r.z (fun b _ s=>ZhM s.2) (.slice px Z.length cx) Z rfl aQ.z aR.z (by rw [ap.z];have:=au.z;unfold maxLen;omega) (by rw [ap.z];have:=au.z;omega) aI.z ?_;intro v' Y ai aA an;have aE:=aa.z.1.not_row (by decide:(22:TypeId)≠59) (r.z.choose_spec.1);have ab:=aa.z.1.kept an aE;have a0:Y.cell? ⟨R+1+1,0,none⟩=some (.slice J H L):=(by rw [<- a];exact ab.cell);have a2:Y.frozen? ⟨R+1+1,0,none⟩=false:=(by rw [<- a];exact ab.frozen);have aH:=Y4 ai;have aZ:=Y4 aA;have S:=Y4 an;have aP:=Y4 ab;obtain ⟨p7,c7,rfl,_⟩:=ai.any.shape;clear ai aA an aE ab)
   obtain ⟨NV,aB⟩:=Xn ((ZjJ pre).length+Z.length);rw [Xd,aB] at aH;rw [aB]
   have D:KeepsFrom l.heap.size W (Y.setCell ⟨R+1+1,0,none⟩ (.slice p7 NV c7))/\Kep (Ze1 T l.heap.size 59 W) W (Y.setCell ⟨R+1+1,0,none⟩ (.slice p7 NV c7))/\Zr4 w l.heap.size (pre++[((.slice px Z.length cx:Value),(Z,(0:Int)))]) (Y.setCell ⟨R+1+1,0,none⟩ (.slice p7 NV c7)):=by
    subst a;have aM:¬Ze1 T l.heap.size 59 W (w.heap.size+1+1):=fun h=>h.elim (fun h=>by have:=(aJ.z _).1 h;omega) (fun h=>by have:=h.1;omega)
    have I:Kep (Ze1 T l.heap.size 59 W) W Y:=ZO S.z fun k f hT=>by
     obtain ⟨h1,h2,z,fr,hc⟩:=r.z.cells f;rcases hT with h|⟨_,aU,t,aW,aw,j⟩
     ·have:=ar k h;omega
     ·rw [hc] at aw;simp only [Xx,Obj.cells.injEq] at aw;exact j aw.2.1.symm
    have ko:Kep (fun b=>(Value.slice J H L).ownBlock≠some b) W Y:=ZO S.z fun k f j=>j f;have ah:∀b,(Value.slice J H L).ownBlock=some b->l.heap.size<=b:=fun b s=>(r.z.cells s).1;obtain ⟨bL,B,q,E⟩:=aa.z;have o2:ZC ZD 59 l.heap.size (ZiT l.heap.size Y) Y (.slice p7 NV c7) (ZjJ pre++Z):=aH.z.weak fun b _ s=>⟨s.1,s.2.keep ko (ZhN r.z s.2)⟩;have ks:Kep (fun b=>b≠w.heap.size+1+1) Y (Y.setCell ⟨w.heap.size+1+1,0,none⟩ (.slice p7 NV c7)):=ZbY _;refine ⟨((ZvR r.z S.z).trans (KeepsOthers.setCell _ _ _)).from _,I.trans (Zy aM _),.slice p7 NV c7,aP.z.set _,?_,?_,?_,?_,?_,?_,?_⟩
    ·rw [ZnD];exact Zey o2 ks (fun b s=>by have:=s.1;omega) (fun g hg=>by have:=(o2.cells hg).1;omega)
    ·intro x hx;rcases Xam.1 hx with hx|hx
     ·exact aS.z x hx
     ·rw [XaJ] at hx;rw [hx]
    ·exact Zar (Zar B ko (fun e=>by have:=ah _ e;omega)) ks (by omega)
    ·exact Zar (Zar q ko (fun e=>by have:=ah _ e;omega)) ks (by omega)
    ·exact (E.trans (ko.below G fun k f e=>by have:=ah _ e;omega)).trans (ks.below (by have:=S.z.size;omega) fun k f=>by omega)
    ·rw [ZnD,Xd,ap.z,Xd];exact au.z.1
    ·have:=S.z.size;have:=ks.size;have:=aI.z;omega
   exact D
  ·have t1:(er != 0)=true:=by rw [Xah];exact he
   have D:KeepsFrom l.heap.size W ((W.setCell ⟨R,0,none⟩ (.slice none 0 0)).setCell ⟨R+1,0,none⟩ (.int .i64 er))/\Zuz w (pre++[(xv,(Z,er))]) ((W.setCell ⟨R,0,none⟩ (.slice none 0 0)).setCell ⟨R+1,0,none⟩ (.int .i64 er)):=by
    subst a;have I:Kep (fun b=>b≠w.heap.size) W (W.setCell ⟨w.heap.size,0,none⟩ (.slice none 0 0)):=ZbY _;have k2:Kep (fun b=>b≠w.heap.size+1) (W.setCell ⟨w.heap.size,0,none⟩ (.slice none 0 0)) ((W.setCell ⟨w.heap.size,0,none⟩ (.slice none 0 0)).setCell ⟨w.heap.size+1,0,none⟩ (.int .i64 er)):=ZbY _;refine ⟨((KeepsOthers.setCell _ _ _).trans (KeepsOthers.setCell _ _ _)).from _,(xv,(Z,er)),List.mem_append_right _ (by simp),he,Zar (B.set _) k2 (by omega),(Zar q I (by omega)).set _,(E.trans (I.below G fun k f=>by omega)).trans (k2.below (by have:=I.size;omega) fun k f=>by omega)⟩
   have HE:=Y4 D;have aC:(W.setCell ⟨R,0,none⟩ (.slice none 0 0)).cell? ⟨R+1,0,none⟩=some (.int .i64 0):=((ZbY (g:=R) (i:=0) (w:=W) (.slice none 0 0)).cell (by have:=q.lt;omega) (by omega) 0).trans cE
   have aD:(W.setCell ⟨R,0,none⟩ (.slice none 0 0)).frozen? ⟨R+1,0,none⟩=false:=by
    have:=(Zar q (ZbY (g:=R) (i:=0) (w:=W) (.slice none 0 0)) (by omega)).frozen;rw [a] at this;exact this
   clear D X v1 v2 v3 a1 ln U m bL B q E;gi_wp2
   exact HE.z
 case done =>
  rintro O xs W hD hS ⟨v,bL,X,a1,B,q,E,ln,hd⟩ hK;have o:=Zws hS a1;obtain ⟨J,L,rfl,_⟩:=X.any.shape;obtain ⟨H,F⟩:=Xn ((ZjJ xs).length);have G:=E.size;rw [F] at bL X;have cL:W.cell? ⟨R+1+1,0,none⟩=some (.slice J H L):=by rw [<- a];exact bL.cell
  have cR:W.cell? ⟨R,0,none⟩=some (.slice none 0 0):=by rw [<- a];exact B.cell
  have fR:W.frozen? ⟨R,0,none⟩=false:=by rw [<- a];exact B.frozen
  have I:Kep (fun b=>b≠R) W (W.setCell ⟨R,0,none⟩ (.slice J H L)):=ZbY _;obtain ⟨W1,u⟩:=Xn (W.setCell ⟨R,0,none⟩ (.slice J H L));have ac:Boxed W1 (w.heap.size+1) 26 (.int .i64 0):=by rw [<- u];exact Zar q I (by omega)
  have aF:Boxed W1 w.heap.size 22 (.slice J H L):=by rw [<- u,<- a];exact B.set _
  have ay:KeepsOthers W W1:=by rw [<- u];exact KeepsOthers.setCell _ _ _
  rw [u] at I;obtain ⟨W3,N⟩:=Xn (W1.setCell ⟨R+1,0,none⟩ (.int .i64 0));have k2:Kep (fun b=>b≠R+1) W1 W3:=by rw [<- N];exact ZbY _
  have aq:Boxed W3 (w.heap.size+1) 26 (.int .i64 0):=by rw [<- N,<- a];exact ac.set _
  have aj:Boxed W3 w.heap.size 22 (.slice J H L):=Zar aF k2 (by omega);have az:KeepsOthers W W3:=ay.trans (by rw [<- N];exact KeepsOthers.setCell _ _ _);have ao:=az.same O _ hK rfl;have o3:=Zey (Zey X I (fun b s=>by have:=s.1;omega) (fun g hg=>by have:=(X.cells hg).1;omega)) k2 (fun b s=>by have:=s.1;omega) (fun g hg=>by have:=(X.cells hg).1;omega);have aG:Below w.heap.size w W3:=(E.trans (I.below G fun k f=>by omega)).trans (k2.below (by have:=I.size;omega) fun k f=>by omega);have k3:Kep (fun b=>b≠O) W3 (W3.putObj O (.deferred none)):=ZO (grownBy_putObj' W3 O (.deferred none)) fun k f j=>by cases f;exact j rfl
  have M:∀b z t fr,W3.heap[b]? = some (.cells z t fr)->b≠O:=fun b z t fr hc e=>by rw [e,ao] at hc;cases hc
  have o4:=Zey o3 k3 (fun b s=>by obtain ⟨_,z,fr,hc⟩:=s;exact M b z _ fr hc) (fun g hg=>by obtain ⟨_,_,z,fr,hc⟩:=o3.cells hg;exact M g z _ fr hc);have A:=(Zar aj k3 (M _ _ _ _ aj)).cell;have C:=(Zar aq k3 (M _ _ _ _ aq)).cell;have V:=aG.trans (k3.below (by have:=I.size;have:=k2.size;omega) fun k f=>by omega);have aC:W1.cell? ⟨R+1,0,none⟩=some (.int .i64 0):=by rw [<- a];exact ac.cell
  have aD:W1.frozen? ⟨R+1,0,none⟩=false:=by rw [<- a];exact ac.frozen
  rw [<- u] at aC aD;have HQ:Y5 (ZCf (ZlZ b) w (.returned (.tuple #[.slice J H L,.int .i64 0])) (W3.putObj O (.deferred none))):=Y4 (by rw [o];exact ⟨_,rfl,Zy0 o4 (by omega),V⟩);have aL:=Y4 u;have aK:=Y4 N;have aO:=Y4 ao;rw [a] at A C;have av:=Y4 A;have ak:=Y4 C;clear M I k2 k3 ac aF ay aq aj az o3 o4 aG V o hS bL B q E X a1 ln u N ao A C U m hK;gi_wp2
  rw [aL.z,aK.z];refine ⟨by simp,.inl ⟨_,_,rfl,run_takeDeferred aO.z,?_⟩⟩;refine ⟨.tuple #[.slice J H L,.int .i64 0],?_,HQ.z⟩;have ax:=av.z;have al:=ak.z;simp [results,Tryz.f49,go_sem,ax,al]
 case stop =>
  rintro O pre W hD ⟨k,f⟩ ⟨x,hx,j,B,q,E⟩ hK
  have hm:x.2∈ZcP b:=by
   have:x.2∈pre.map (·.2):=X4.2 ⟨x,hx,rfl⟩;rw [f] at this;exact Xaq this
  obtain ⟨af,o⟩:=ZzK hm j;rw [o];have G:=E.size;rw [af] at q;have k3:Kep (fun b=>b≠O) W (W.putObj O (.deferred none)):=ZO (grownBy_putObj' W O (.deferred none)) fun k f j=>by cases f;exact j rfl
  have A:=(Zar B k3 (by omega)).cell;have C:=(Zar q k3 (by omega)).cell;have V:=E.trans (k3.below G fun k f=>by omega);have HQ:Y5 (ZCf none w (.returned (.tuple #[.slice none 0 0,.int .i64 120])) (W.putObj O (.deferred none))):=Y4 ⟨_,rfl,Zaa.nil_ _ _,V⟩;rw [a] at A C;have av:=Y4 A;have ak:=Y4 C;clear k3 V A C o hm f hx j af B q E U m;gi_wp2
  refine ⟨by simp,.inl ⟨_,_,rfl,run_takeDeferred hK,?_⟩⟩;refine ⟨.tuple #[.slice none 0 0,.int .i64 120],?_,HQ.z⟩;have ax:=av.z;have al:=ak.z;simp [results,Tryz.f49,go_sem,ax,al]
end SR
namespace SG
open RowKit MM
open EV (Zae ZD ZjR Z2 ZcB Zej)
open SM (Zq ZcA)
open SR (ZiT ZhM ZhN Zey)
theorem ZhI (v:Value) (l:List Zq) (w:World) (a:ZF ZD w v l):Calls prog 66 #[v] w fun e w'=>e=.returned (.int .i64 (l.length:Int))/\w=w':=by
 obtain ⟨p,d,rfl,c,b,_⟩:=a.shape;clear a;go_enter func66,ntmps66;go_wp2_with fail;go_ret;exact ⟨rfl,rfl⟩
end SG
namespace ST
open RowKit MM EM SM VM DM
open EV (ZD evC Zae Z2 ZcB ZjR ZbT ZbJ Zbv Zev ZfM Zej IsF)
