import Derived.Test.YtmomfobdpfajbaaGreatZA13
import Derived.Test.YtmomfobdpfajbaaGreatZA40
import Derived.Test.YtmomfobdpfajbaaGreatZA42
import Derived.Test.YtmomfobdpfajbaaGreatZA46
import Derived.Test.YtmomfobdpfajbaaGreatZA47
set_option maxRecDepth 100000
set_option maxHeartbeats 0
set_option linter.unusedVariables false
set_option linter.unusedSimpArgs false
namespace Go.Proofs.YtmomfobdpfajbaaGreat
open Tryz
namespace MM
open RowKit Go.ChangeShapes Go.WideShapes
variable {P:Program} {t:TypeId}
def ZgC (P:Program) {α:Type} (C:Codec α) (G:α->Prop) (t:TypeId):Prop :=
 ∀{H:Type} {enc:TypeId×Value->H} {W:World} {base n:Nat} {b:List Value} {x:DataW H×List MemPlace},DataW.trod enc P W base (fun _=>true) true n t b=some x->∃a,C.on (fun _=>True) W b a/\G a
def ZCh (z:Int):Prop := -9223372036854775808<=z/\z<=9223372036854775807
theorem Zoz (b:P.underlying t=some (.int .i64)):ZgC P Zbk ZCh t:=fun h=>by
 obtain ⟨z,rfl,_,a⟩:=DataW.trod_int b h;refine ⟨z,rfl,?_⟩;simp only [Lit.wf,Xw,Xg] at a;have c:IntKind.i64.min = -9223372036854775808:=by decide
 have d:IntKind.i64.max=9223372036854775807:=by decide
 rw [c,d] at a;exact a
theorem ZoB (a:P.underlying t=some .string):ZgC P Zio (fun l=>l.length<=maxLen) t:=fun h=>by
 obtain ⟨s,rfl,_,hs⟩:=DataW.trod_string a h;exact ⟨s.data.toList,rfl,by simpa using hs⟩
theorem ZoA {α:Type} [Inhabited α] {C:Codec α} {G:α->Prop} {T e:TypeId} (O:P.underlying T=some (.slice e)) (Z:P.cellsOf e=C.size) (R:ZgC P C G e):ZgC P (Zfq C) (fun l=>(∀a∈l,G a)/\l.length<=maxLen) T:=fun {H enc W base n cs x} h=>by
 rcases Deep.open_slice O h with ⟨rfl,_⟩|⟨a,len,ac,m,k,D,Pl,rfl,_,U,hm,v,_,V⟩
 ·exact ⟨[],⟨_,rfl,ZB.nil_ _ _⟩,by simp,by simp [maxLen]⟩
 ·simp only [if_true] at v;subst v
  have y:∀i,i<len->∃q:α×List Value,W.cells? base (a.add (i*C.size)) C.size=some q.2/\C.on (fun _=>True) W q.2 q.1/\G q.1:=fun i hi=>by
   obtain ⟨E,L,h2⟩:=V i (by omega);obtain ⟨d,h3,h4⟩:=R h2;rw [Z] at L;exact ⟨(d,E),L,h3,h4⟩
  obtain ⟨q,p⟩:=Deep.choose_lt y;refine ⟨(List.range len).map fun i=>(q i).1,⟨_,rfl,some a,m,(List.range len).map fun i=>(q i).2,by simp,by simpa using U,hm,(fun h=>by cases h),⟨by simp,fun i hi ab => ?_⟩,?_⟩,fun d Y => ?_,by simp;omega⟩
  ·have B:i<len:=by simpa using hi
   simp only [Xax,List.getElem_range];exact (p i B).2.1
  ·by_cases h0:len=0
   ·left;simp [h0]
   ·right
    have c:∀r∈(List.range len).map (fun i=>(q i).2),r.length=C.size:=fun r S=>by
     obtain ⟨i,hi,rfl⟩:=X4.1 S;exact C.len (p i (List.mem_range.1 hi)).2.1
    have cell:∀i,i<len->∀j u,(q i).2[j]? = some u->W.cell? ((a.add (i*C.size)).add j)=some u:=fun i hi j u s=>by
     obtain ⟨_,I,g⟩:=World.cells?_some (p i hi).1;have o:=(Xak.1 s).1;have:=g j (by omega);rw [this];simpa using s
    have M:=C.pos;have X:=C.len (p 0 (by omega)).2.1;obtain ⟨u0,F⟩:∃u,(q 0).2[0]? = some u:=⟨_,XZ (by omega)⟩;have c0:=cell 0 (by omega) 0 u0 F;obtain ⟨b,off,w⟩:=a
    have f:w=none:=by
     have:=World.cell?_spot c0;simpa [Addr.add] using this
    subst f;refine ⟨b,off,rfl,?_,trivial,fun j u s => ?_⟩
    ·rw [ZZ,ZZ] at c0
     by_cases J:b<W.heap.size
     ·exact J
     ·simp [World.cell?,Xau (XaR J)] at c0
    ·have o:=(Xak.1 s).1;rw [ZeM c,XF,List.length_range] at o;have hi:j / C.size<len:=(Nat.div_lt_iff_lt_mul M).2 o;have N:=XaM j M;have A:=Nat.div_add_mod j C.size;have aa:=C.len (p _ hi).2.1;obtain ⟨u',z⟩:∃u,(q (j / C.size)).2[j%C.size]? = some u:=⟨_,XZ (by omega)⟩;have hf:=flat_get c (j / C.size) (by simpa using hi) (j%C.size) u' (by simpa using z);have e:j / C.size*C.size+j%C.size=j:=by rw [Nat.mul_comm];exact A
     rw [e,s] at hf;obtain rfl:=XW hf;have:=cell _ hi _ _ z;rw [ZZ,ZZ,Xat,e] at this;exact this
  ·obtain ⟨i,hi,rfl⟩:=X4.1 Y;exact (p i (List.mem_range.1 hi)).2.2
theorem ZiJ {α β:Type} {C:Codec α} {D:Codec β} {G:α->Prop} {F:β->Prop} {f0 f1:Field} (m:P.underlying t=some (.struct #[f0,f1]))
  (f:f0.offset=0) (j:f1.offset=C.size) (i:P.cellsOf f0.type=C.size) (g:P.cellsOf f1.type=D.size) (r:P.cellsOf t=C.size+D.size) (s:ZgC P C G f0.type) (u:ZgC P D F f1.type) :
  ZgC P (ZeH C D) (fun p=>G p.1/\F p.2) t:=fun {H enc W base n c x} h=>by
 obtain ⟨y0,y1,k,_,v,y,q⟩:=trod_struct2 m h;obtain ⟨a,l,w⟩:=s y;obtain ⟨b,d,o⟩:=u q;rw [f,i,Xap] at l;rw [j,g] at d;rw [r] at v;have e:(c.drop C.size).take D.size=c.drop C.size:=XO (by rw [Xp];omega);rw [e] at d;exact ⟨(a,b),⟨c.take C.size,c.drop C.size,(X8 _ _).symm,l,d⟩,w,o⟩
theorem Zr7 {α:Type} {C:Codec α} {G:List α->Prop} {H:Type} {enc:TypeId×Value->H} {W:World} {base:Nat} {a:Option Addr} {len b:Nat} {d:DataW H} {p:List MemPlace} (R:ZgC P (Zfq C) G t)
  (h:∃c,DataW.trod enc P W base (fun _=>true) true c t (Value.slice a len b).cells.toList=some (d,p)):∃l,ZF C W (.slice a len b) l/\G l:=by
 obtain ⟨c,hf⟩:=h;obtain ⟨l,⟨v,f,g⟩,i⟩:=R hf;have e:(Value.slice a len b).cells.toList=[.slice a len b]:=rfl;rw [e] at f;obtain rfl:Value.slice a len b=v:=by simpa using f
 exact ⟨l,g,i⟩
end MM
namespace SG
open RowKit MM
open EV (ZD Zae)
open SM (Zq isS ZaS ZgL)
open DT (ZcE Zfm)
open DM (ZbD)
open SR (Zaa)
open GM (Six ZjH Zdy Zir Zf5 Zq4 Zpt ZrE Zax ZeJ Zis Zf6 ZgK ZS Zl Zp Zj Z8 Ze6 sized)
variable {S:Nat->Prop} {w w':World} {g:Nat} {L:List Xu} {v:Value}
theorem Zln {off n a:Nat} (h:ZB (Zfq cU8) S w (.slice (some ⟨g,off,none⟩) n a) L) (k:Nat) (e:k<L.length):∃u,BOn S w u L[k]/\w.cell? ⟨g,off+k,none⟩=some u:=by
 obtain ⟨b,o,vs,d,_,_,⟨u,i,c⟩,f⟩:=h.at_ e;simp only [Xx,Addr.mk.injEq,and_true] at d;obtain ⟨rfl,rfl⟩:=d;refine ⟨u,c,?_⟩;have:=f 0 u (by rw [i];rfl)
 rwa [show (Zfq cU8).size=1 from rfl,XaB,Xad] at this
theorem ZhU (h:ZB (Zfq cU8) S w v L) (a:Below w.heap.size w w'):ZB (Zfq cU8) S w' v L:=h.keep (Za S a) fun _ _ h=>h
theorem Ztl {W:World} {k:Nat} {u:Value} (h:w.cell? ⟨g,k,none⟩=some u) (b:Below w.heap.size w W):W.cell? ⟨g,k,none⟩=some u:=by
 have a:g<w.heap.size:=by
  cases hh:w.heap[g]? with
  | none=>simp [World.cell?,hh] at h
  | some x=>exact (Xq.1 hh).1
 rw [b.cell a];exact h
theorem ZxB {B:Nat} {l:List Zq} (h:Zaa B w v l):ZB ZD (fun k=>B<=k) w v l:=by
 obtain ⟨S,e,a⟩:=h;exact a.ron (fun g d=>(a.cells d).1) fun b _ c=>(e b c).1
def ZB8 (b:Xu) (w:World) (e:Ending) (w':World):Prop :=
 ∃p,e=.returned (.tuple #[.pointer p,.int .i64 (if (ZgK b).isSome then 0 else 130)])/\Zfn (fun k=>w.heap.size<=k) w' p ((ZgK b).getD [])/\(ZgK b=none->p=none)/\Below w.heap.size w w'
theorem ZmD {b:Xu} (h:ZgK b=none) (a:Below w.heap.size w w'):ZB8 b w (.returned (.tuple #[.pointer none,.int .i64 130])) w':=by
 refine ⟨none,by rw [h];rfl,.inl ⟨rfl,by rw [h];rfl⟩,fun _=>rfl,a⟩
theorem ZmE (v:Value) (b:Xu) (w:World) (hr:Zv w v b) (hs:ZjH b):Calls prog 12 #[v] w (ZB8 b w):=by
 have HC:=Y4 (ZBS v b w hr);obtain ⟨pv,cv,aY,_⟩:=hr.shape;have HR:=Y4 hr;rw [aY] at HR HC ⊢;clear hr aY;go_enter func12,ntmps12;go_wp2_with fail;refine HC.z.mono ?_;rintro e w1 ⟨ad,⟨vs,rfl,bi,aK⟩|⟨vs,L,rfl,h6,f⟩⟩
 ·have HQ:=Y4 (ZmD (ZrE aK) ad);clear ad aK HC HR;go_wp2_with fail;go_ret2;exact HQ.z
 ·have aD:=h6.six
  obtain ⟨g,off,ae,a9⟩:∃(g off ae:Nat),vs=.slice (some ⟨g,off,none⟩) 6 ae:=by
   obtain ⟨p,ae,rfl,_⟩:=f.shape;obtain ⟨b',o',bp,rfl,_⟩:=f.at_ (k:=0) (by omega);exact ⟨b',o',ae,by rw [aD]⟩
  subst a9;obtain ⟨u0,ak,c0⟩:=Zln f 0 (by omega);rw [Xad] at c0
  have H:L[0]=L.headD []:=by
   cases L with
   | nil=>simp at aD
   | cons a t=>rfl
  rw [H] at ak;have y:=hs.2 L h6;have HD:=Y4 (SR.ZAA u0 _ w1 ak.brow (by omega));obtain ⟨bl,bj,rfl,_⟩:=ak.shape;obtain ⟨X,hX⟩:=Xn (L.headD []);rw [hX] at HD c0;have HX:=Y4 hX;have H6:=Y4 h6;have am:=Y4 f;have ah:=Y4 ad;have aB:=Y4 y;clear ad f h6 ak hX y HC H;go_wp2_with fail;refine HD.z.mono ?_;rintro e w2 ⟨ud,rfl,u,ap⟩;have n:(ZgL X).getD []=Zdy L:=by rw [<- HX.z];rfl
  rw [n] at u;have HE:=Y4 (Ze5 ud (Zdy L) w2 u.any (Zf5 aB.z) (Zir L));obtain ⟨l,hl⟩:=Xn (Zdy L);have HL:=Y4 hl;rw [hl] at u HE;obtain ⟨pd,cd,rfl,_⟩:=u.any.shape;have a2:=Y4 (u.base ah.z.size);have ax:=Y4 (ah.z.trans (ap.mono ah.z.size));have O:=Y4 (ZhU am.z ap);clear u ap hl HD n am c0;go_wp2_with fail;refine HE.z.mono ?_;rintro e w3 ⟨ue,rfl,Z,ag⟩;have m:=Y4 (ax.z.trans (ag.mono ax.z.size));have c:=Y4 (ZhU O.z ag);have o:=Y4 (a2.z.keep (Za (fun _=>True) ag) fun _ _ _=>trivial);have Y:=Y4 (Zv.below HR.z m.z);have B:=Zis l;obtain ⟨⟨x,z⟩,aq⟩:∃r,ZeJ l=r:=⟨_,rfl⟩;rw [aq] at Z B ⊢;dsimp only at Z ⊢;have A:=Y4 aq;have J:=Y4 (Zd.brow Z);obtain ⟨px,cx,rfl,_⟩:=J.z.shape;clear Z ag HE a2 O ax ah HR aq
  by_cases hz:z=0
  ·subst hz;have G:=Y4 (ZnZ _ _ x b w3 J.z Y.z)
   by_cases I:x=b
   ·rw [Xs I] at G;subst I;clear B;have an:=Zq4 H6.z (by rw [HL.z];exact A.z);rw [HL.z] at an;obtain ⟨aT,a5⟩:=an;have hS:=(Zf6 A.z).1;have aN:=(Zf6 A.z).2.1;have y:=Zf5 aB.z;rw [HL.z] at y;have hz:=sized hS y;subst a5;obtain ⟨es,s⟩:=Xn (ZS 0 (Zp l));obtain ⟨ps,az⟩:=Xn (Zl (Zp l));obtain ⟨fs,af⟩:=Xn (Z8 (Zp l));obtain ⟨u3,N,c3⟩:=Zln c.z 3 (show 3<6 by omega);have N:BOn (fun k=>w.heap.size<=k) w3 u3 (ZbD es):=by rw [<- s];exact N
    have T:(ZbD es).length<=1000000000000:=by
     have:=hz.sects (ZbD (ZS 0 (Zp l))) (by unfold Zax;simp);rw [s] at this;omega
    have aP:DM.Znl (ZbD es)=some es:=DM.Zqn (by rw [<- s];exact hz.are);have aE:8<=fs.length/\fs.length<=131072:=by rw [<- af,Ze6];exact BM.Zdf _
    have ac:=Y4 (DT.ZmE u3 (ZbD es) w3 N.brow T);rw [aP] at ac;obtain ⟨bn,bk,rfl,_⟩:=N.shape;have be:=Y4 s;have aC:=Y4 s;have aI:=Y4 az;have aJ:=Y4 af;have a0:=Y4 az;have aL:=Y4 af;have ar:=Y4 aT;have a1:=Y4 aN;have av:=Y4 aE;obtain ⟨n3,aO⟩:=Xn ((ZbD es).length);rw [aO] at ac c3;clear y hz s az af aT aN aE aP N T J Y A HX aB aO;go_wp2_with fail;refine G.z.mono ?_;rintro e w4 ⟨rfl,rfl⟩;clear G;go_wp2_with fail;refine ac.z.mono ?_;rintro e w5 ⟨pt,rfl,_,aR,U⟩;obtain ⟨gt,rfl,aQ⟩:=aR es rfl;have ay:=Y4 aQ;have j:=Y4 (ZhU c.z U);have ao:=Y4 (o.z.keep (Za (fun _=>True) U) fun _ _ _=>trivial);have E:=Y4 (m.z.trans (U.mono m.z.size));obtain ⟨u4,R,c4⟩:=Zln j.z 4 (show 4<6 by omega);have R:BOn (fun k=>w.heap.size<=k) w5 u4 fs:=by rw [<- aL.z];exact R
    have aW:=Y4 (BL.ZuX u4 fs w5 R.brow av.z.1 av.z.2);obtain ⟨bm,bo,rfl,_⟩:=R.shape;clear aQ U ac aR c o R c3;go_wp2_with fail;refine aW.z.mono ?_;rintro e w6 ⟨gf,bf,cf,rfl,aS,bb,a6,ai⟩;have aw:=Y4 (E.z.trans (ai.mono E.z.size));obtain ⟨wd,au⟩:=Xn w6.drew;have aj:Below w6.heap.size w6 wd:=by rw [<- au];exact (Below.refl _ _).drew
    have a3:=Y4 au;have q:=ai.trans (aj.mono ai.size);have aA:=Y4 (aw.z.trans (aj.mono aw.z.size));have D:=ZhU j.z q;have M:=ao.z.keep (Za (fun _=>True) q) fun _ _ _=>trivial;have aV:BL.FAt wd gf bf cf fs:=aS.keep (Za (fun _=>True) aj) trivial trivial;have al:Zfm (fun b=>w.heap.size<=b) wd gt es:=ay.z.keep (Za _ q) fun b _ hb=>by have:=m.z.size;omega
    obtain ⟨u2,F,c2⟩:=Zln D 2 (show 2<6 by omega);have F:BOn (fun k=>w.heap.size<=k) wd u2 ps:=by rw [<- a0.z];exact F
    obtain ⟨V,aa,rfl,_⟩:=F.shape;have aH:=Y4 (Zma _ l wd M.any a1.z);have aF:w.heap.size<=gf:=by have:=E.z.size;omega
    have aX:w.heap.size<=bf:=by have:=E.z.size;omega
    have aZ:=Y4 aV;have ay:=Y4 al;have aU:=Y4 M;have a7:=Y4 F;have ba:=Y4 aF;have a4:=Y4 aX;have i2:(2:Int)<6:=by omega
    clear j ao aS bb a6 ai aj q au aV al M D F aF aX aW aw E m c4 aL be a0 av;go_wp2_with fail;refine RG.Zal [(0,true),(1,true),(2,true),(3,true),(4,true),(5,true),(6,true),(7,true),(8,false),(9,true),(10,false),(11,true),(12,true)] (by kernel_rfl) (by kernel_rfl) rfl (by kernel_rfl) (fun _ _ d _ _ h=>by cases d<;>exact h) ?_;simp only [RG.Zt,XC,XN,XU,XV,XS];rw [a3.z]
    iterate 4 (refine RG.take (by rfl) (by intro W hW;go_simp;with_reducible rfl) ?_;simp only [Act.put,Xm,Xo,Xl])
    refine RG.take (v:=.slice V ps.length aa) (by rfl) (by intro W hW;have cW:=(Ztl c2 hW);go_simp) ?_;simp only [Act.put,Xm,Xo,Xl]
    iterate 3 (refine RG.take (by rfl) (by intro W hW;go_simp;with_reducible rfl) ?_;simp only [Act.put,Xm,Xo,Xl])
    refine RG.alone (by rfl) (fun K hK => ?_);go_simp;refine aH.z.mono ?_;rintro e w7 ⟨rfl,C⟩;go_simp;refine hK.z _ _ C ?_;clear hK K
    iterate 1 (refine RG.take (by rfl) (by intro W hW;go_simp;with_reducible rfl) ?_;simp only [Act.put,Xm,Xo,Xl])
    refine RG.alone (by rfl) (fun K hK => ?_);go_simp;refine hK.z _ _ ((Below.refl _ _).alloc (Xa _) _) ?_;clear hK K;obtain ⟨w8,ab⟩:=Xn (w7.alloc (.cells (ZCP (.slice pd l.length cd) (some ⟨gt,0,none⟩) (.slice V ps.length aa) (some ⟨gf,0,none⟩) (Zj l)) 88));have aG:w8.heap[w7.heap.size]? = some (.cells (ZCP (.slice pd l.length cd) (some ⟨gt,0,none⟩) (.slice V ps.length aa) (some ⟨gf,0,none⟩) (Zj l)) 88 (0,0)):=by rw [<- ab];exact heap_alloc_new _ _
    have aM:Below w7.heap.size w7 w8:=by rw [<- ab];exact (Below.refl _ _).alloc (Xa _) _
    have a8:=Y4 aG;have bg:Y5 (w7.alloc (.cells #[.slice pd l.length cd,.pointer (some ⟨gt,0,none⟩),.slice V ps.length aa,.pointer (some ⟨gf,0,none⟩),.int .i64 0,.int .i64 0,.int .i64 (Zj l).1,.int .i64 (Zj l).2.1,.int .i64 (Zj l).2.2.1,.int .i64 (Zj l).2.2.2.1,.int .i64 ((Zj l).2.2.2.2:Int)] 88)=w8):=Y4 ab;have bc:=Y4 (C.trans (aM.mono C.size));have bd:=Y4 C;clear C aM aG ab aH;rw [bg.z]
    iterate 2 (refine RG.take (by rfl) (by intro W hW;go_simp;with_reducible rfl) ?_;simp only [Act.put,Xm,Xo,Xl])
    refine RG.done ?_;go_wp2_with fail;go_ret2;have i:Below wd.heap.size wd w8:=bc.z;refine ⟨some ⟨w7.heap.size,0,none⟩,by rw [ar.z];rfl,?_,(fun h=>by rw [ar.z] at h;cases h),aA.z.trans (i.mono aA.z.size)⟩;rw [ar.z,Option.getD_some];refine .inr ⟨w7.heap.size,_,_,_,_,rfl,Xy aA.z.size bd.z.size,a8.z,?_⟩;have n:Zaa w.heap.size w8 (.slice pd l.length cd) l:=aU.z.keep (Za (fun _=>True) i) fun _ _ _=>trivial;refine ⟨ZxB n,.inr ⟨gt,rfl,by rw [aC.z];exact ay.z.keep (Za _ i) fun _ _ h=>h⟩,?_,.inr ⟨a1.z,gf,bf,cf,rfl,?_,ba.z,a4.z⟩⟩
    ·rw [aI.z];exact a7.z.below i
    ·rw [aJ.z];exact aZ.z.keep (Za (fun _=>True) i) trivial trivial
   ·rw [Xz I] at G;have HQ:=Y4 (ZmD (Zpt H6.z (fun h=>I (by rw [HL.z,A.z] at h;exact (Xa4 h).1))) m.z);clear B I J Y o c;go_wp2_with fail;refine G.z.mono ?_;rintro e w4 ⟨rfl,rfl⟩;go_wp2_with fail;go_ret2;exact HQ.z
  ·have HQ:=Y4 (ZmD (Zpt H6.z (fun h=>hz (by rw [HL.z,A.z] at h;exact (Xa4 h).2))) m.z)
   have bh:z=130\/z=2:=by
    rcases B with h|h|h
    ·exact .inl (Xa4 h).2
    ·exact .inr (Xa4 h).2
    ·exact absurd (Xa4 h).2 hz
   clear B J Y o c;rcases bh with rfl|rfl
   all_goals
    go_wp2_with fail;go_ret2;exact HQ.z
end SG
namespace SG
open RowKit MM
open EV (ZD Zae Zej Za0)
open SR (ZfO)
open EM (Zm)
open SM (Zq isS ZaS ZgL ZcA)
open GM (ZbV Sized sized ZS Zl Zp Zj Z8 Zb1 ZaD ZiH Zbg)
theorem Ztm (a b c d e f g h i j k:Value) (w:World):(Instr.field 88 (.agg #[a,b,c,d,e,f,g,h,i,j,k]) 0).run prog w=.ok a w:=by kernel_rfl
theorem ZpF (a b c d e f g h i j k:Value) (w:World):(Instr.field 88 (.agg #[a,b,c,d,e,f,g,h,i,j,k]) 1).run prog w=.ok (.agg #[b,c,d]) w:=by kernel_rfl
theorem ZCQ (a b c d e f g h i j k:Value) (w:World):(Instr.field 88 (.agg #[a,b,c,d,e,f,g,h,i,j,k]) 2).run prog w=.ok (.agg #[e,f,g,h,i,j,k]) w:=by kernel_rfl
theorem Zjg (p:Option Addr) (l:List Zq) (w:World) (h:Zfn (fun _=>True) w p l):Calls prog 28 #[.pointer p] w fun e w'=>e=.returned (.int .i64 (l.length:Int))/\Below w.heap.size w w':=by
 have d:=Y4 (Zcj p l w h);clear h;go_enter func28,ntmps28;go_wp2_with fail;refine d.z.mono ?_;rintro e b ⟨g,i,rv,m,rfl,a,c⟩;have o:=Y4 (ZhI g l b a.docs);have q:=Y4 c;obtain ⟨f,j,rfl,_⟩:=a.docs.shape;obtain ⟨k,n,rfl,_⟩:=a.rws.shape;have f0:=Ztm (.slice f l.length j) (.pointer i) (.slice k (Zl (Zp l)).length n) (.pointer m) (.int .i64 0) (.int .i64 0) (.int .i64 (Zj l).1) (.int .i64 (Zj l).2.1) (.int .i64 (Zj l).2.2.1) (.int .i64 (Zj l).2.2.2.1) (.int .i64 ((Zj l).2.2.2.2:Int)) b;clear a c d;go_wp2_with fail;refine o.z.mono ?_;rintro e w2 ⟨rfl,rfl⟩;go_wp2_with fail;go_ret;exact ⟨rfl,q.z⟩
theorem ZmR (p:Option Addr) (l:List Zq) (u:Xu) (w:World) (h:Zfn (fun _=>True) w p l) (x:isS l=true) (g:ZbV l):Calls prog 20 #[.pointer p,.string ⟨u.toArray⟩] w (Znz (Zm (Zp l) u) w):=by
 have c:=sized x g;have m:=Y4 (Zcj p l w h);clear h;go_enter func20,ntmps20;go_wp2_with fail;refine m.z.mono ?_;rintro e q ⟨ev,i,s,n,rfl,b,k⟩;have o:=Y4 (Zkg i s (.pointer n) rfl (Zp l) u q b.dict c.are (BOn.brow b.rws) (by have:=c.posts;omega) (fun r t=>(c.row r t).2.2.2.1));have d:=Y4 k;obtain ⟨A,y,rfl,_⟩:=b.docs.shape;obtain ⟨z,B,rfl,_⟩:=b.rws.shape;have f0:=ZpF (.slice A l.length y) (.pointer i) (.slice z (Zl (Zp l)).length B) (.pointer n) (.int .i64 0) (.int .i64 0) (.int .i64 (Zj l).1) (.int .i64 (Zj l).2.1) (.int .i64 (Zj l).2.2.1) (.int .i64 (Zj l).2.2.2.1) (.int .i64 ((Zj l).2.2.2.2:Int)) q;clear b k m c;go_wp2_with fail;refine o.z.mono ?_;rintro e w2 ⟨v,rfl,f,a⟩;have j:=Y4 (And.intro f (d.z.trans (a.mono d.z.size)));obtain ⟨pu,cu,rfl,_⟩:=PW.POn.shape f;clear f a o d;go_wp2_with fail;go_ret;exact ⟨_,rfl,j.z.1,j.z.2⟩
theorem ZmB (p:Option Addr) (l:List Zq) (u:Xu) (w:World) (h:Zfn (fun _=>True) w p l) (y:l≠[]->u.length<=1000000):Calls prog 22 #[.pointer p,.string ⟨u.toArray⟩] w fun e w'=>e=.returned (.bool (!l.isEmpty&&BM.Zh2 (Z8 (Zp l)) u))/\Below w.heap.size w w':=by
 have r:=Y4 (Zcj p l w h);clear h;go_enter func22,ntmps22;go_wp2_with fail;refine r.z.mono ?_;rintro e c ⟨ev,o,v,s,rfl,a,q⟩
 have t:Calls prog (61) #[.agg #[.pointer o,v,.pointer s],.string ⟨u.toArray⟩] c fun e w'=>e=.returned (.bool (!l.isEmpty&&BM.Zh2 (Z8 (Zp l)) u))/\Below c.heap.size c w':=by
  rcases a.fil with ⟨rfl,rfl⟩|⟨f,g,b,n,rfl,hf,_,_⟩
  ·exact ZyJ _ _ rfl a.rws.oneCell u c
  ·have:l.isEmpty=false:=by simpa using f
   rw [this];exact ZyK _ _ rfl a.rws.oneCell g b n _ u c hf (y f)
 have k:=Y4 t;have i:=Y4 q;obtain ⟨C,z,rfl,_⟩:=a.docs.shape;obtain ⟨A,D,rfl,_⟩:=a.rws.shape;obtain ⟨B,j⟩:=Xn ((!l.isEmpty&&BM.Zh2 (Z8 (Zp l)) u));have m:=Y4 j;rw [j] at k;have f0:=ZpF (.slice C l.length z) (.pointer o) (.slice A (Zl (Zp l)).length D) (.pointer s) (.int .i64 0) (.int .i64 0) (.int .i64 (Zj l).1) (.int .i64 (Zj l).2.1) (.int .i64 (Zj l).2.2.1) (.int .i64 (Zj l).2.2.2.1) (.int .i64 ((Zj l).2.2.2.2:Int)) c;clear a q r t j;go_wp2_with fail;refine k.z.mono ?_;rintro e w2 ⟨rfl,d⟩;have x:=Y4 (i.z.trans (d.mono i.z.size));clear d k i;go_wp2_with fail;go_ret;exact ⟨by rw [m.z];rfl,x.z⟩
theorem Zrh (p:Option Addr) (l:List Zq) (u:Xu) (w:World) (h:Zfn (fun _=>True) w p l) (s:isS l=true) (f:ZbV l):Calls prog 25 #[.pointer p,.string ⟨u.toArray⟩] w fun e w'=>(∃v,e=.returned v/\ZcF w' v (ZaD (Zp l) u))/\Below w.heap.size w w':=by
 have m:=sized s f;have k:=Y4 (Zcj p l w h);clear h;go_enter func25,ntmps25;go_wp2_with fail;refine k.z.mono ?_;rintro e q ⟨ev,g,r,n,rfl,b,j⟩;have o:=Y4 (ZuG g r (.pointer n) b.rws.oneCell rfl (Zp l) u q b.dict m.are);have c:=Y4 j;obtain ⟨y,t,rfl,_⟩:=b.docs.shape;obtain ⟨x,z,rfl,_⟩:=b.rws.shape;have f0:=ZpF (.slice y l.length t) (.pointer g) (.slice x (Zl (Zp l)).length z) (.pointer n) (.int .i64 0) (.int .i64 0) (.int .i64 (Zj l).1) (.int .i64 (Zj l).2.1) (.int .i64 (Zj l).2.2.1) (.int .i64 (Zj l).2.2.2.1) (.int .i64 ((Zj l).2.2.2.2:Int)) q;clear b j k m;go_wp2_with fail;refine o.z.mono ?_;rintro e w2 ⟨⟨v,rfl,d⟩,a⟩;have i:=Y4 (And.intro d (c.z.trans (a.mono c.z.size)));obtain ⟨pu,cu,rfl,_⟩:=TIn.shape d;clear d a o c;go_wp2_with fail;go_ret;exact ⟨⟨_,rfl,i.z.1⟩,i.z.2⟩
theorem Zne (p:Option Addr) (l:List Zq) (w:World) (h:Zfn (fun _=>True) w p l):Calls prog 31 #[.pointer p] w fun e w'=>e=.returned (.int .i64 ((Zp l).length:Int))/\Below w.heap.size w w':=by
 have k:=Y4 (Zcj p l w h);clear h;go_enter func31,ntmps31;go_wp2_with fail;refine k.z.mono ?_;rintro e f ⟨ev,i,n,j,rfl,b,g⟩;have c:=Y4 (ZrN i n (.pointer j) b.rws.oneCell rfl _ f b.dict);rw [Zb1] at c;have d:=Y4 g;obtain ⟨m,o,rfl,_⟩:=b.docs.shape;obtain ⟨q,s,rfl,_⟩:=b.rws.shape;have f0:=ZpF (.slice m l.length o) (.pointer i) (.slice q (Zl (Zp l)).length s) (.pointer j) (.int .i64 0) (.int .i64 0) (.int .i64 (Zj l).1) (.int .i64 (Zj l).2.1) (.int .i64 (Zj l).2.2.1) (.int .i64 (Zj l).2.2.2.1) (.int .i64 ((Zj l).2.2.2.2:Int)) f;clear b g k;go_wp2_with fail;refine c.z.mono ?_;rintro e w2 ⟨rfl,a⟩;have r:=Y4 (d.z.trans (a.mono d.z.size));clear a c d;go_wp2_with fail;go_ret;exact ⟨rfl,r.z⟩
theorem Zs7 (p:Option Addr) (l:List Zq) (a z:Int) (w:World) (h:Zfn (fun _=>True) w p l) (hl:l.length<=65536):Calls prog 33 #[.pointer p,.int .i64 a,.int .i64 z] w fun e w'=>(∃u,e=.returned u/\Zc6 w' u (ZiH l a z))/\Below w.heap.size w w':=by
 have j:=Y4 (Zcj p l w h);clear h;go_enter func33,ntmps33;go_wp2_with fail;refine j.z.mono ?_;rintro e m ⟨o,n,rv,s,rfl,c,i⟩;have k:=Y4 (Ztz o l a z m c.docs (by omega));have d:=Y4 i;obtain ⟨t,q,rfl,_⟩:=c.docs.shape;obtain ⟨r,x,rfl,_⟩:=c.rws.shape;have f0:=Ztm (.slice t l.length q) (.pointer n) (.slice r (Zl (Zp l)).length x) (.pointer s) (.int .i64 0) (.int .i64 0) (.int .i64 (Zj l).1) (.int .i64 (Zj l).2.1) (.int .i64 (Zj l).2.2.1) (.int .i64 (Zj l).2.2.2.1) (.int .i64 ((Zj l).2.2.2.2:Int)) m;clear c i j;go_wp2_with fail;refine k.z.mono ?_;rintro e w2 ⟨⟨v,rfl,f⟩,b⟩;have g:=Y4 (And.intro f (d.z.trans (b.mono d.z.size)));obtain ⟨pu,cu,rfl,_⟩:=Zc6.shape f;clear f b k d;go_wp2_with fail;go_ret;exact ⟨⟨_,rfl,g.z.1⟩,g.z.2⟩
theorem Zrd (p:Option Addr) (l:List Zq) (w:World) (h:Zfn (fun _=>True) w p l):Calls prog 29 #[.pointer p] w fun e w'=>e=.returned (.agg #[.int .i64 0,.int .i64 0,.int .i64 (Zj l).1,.int .i64 (Zj l).2.1,.int .i64 (Zj l).2.2.1,.int .i64 (Zj l).2.2.2.1,.int .i64 ((Zj l).2.2.2.2:Int)])/\Below w.heap.size w w':=by
 obtain ⟨t,a⟩:=Xn (w.alloc (.cells #[.int .i64 0,.int .i64 0,.int .i64 0,.int .i64 0,.int .i64 0,.int .i64 0,.int .i64 0] 65));have j:Below w.heap.size w t:=by rw [<- a];exact (Below.refl _ _).alloc (Xa _) _
 have A:t.heap[w.heap.size]? = some (.cells #[.int .i64 0,.int .i64 0,.int .i64 0,.int .i64 0,.int .i64 0,.int .i64 0,.int .i64 0] 65 (0,0)):=by rw [<- a];exact heap_alloc_new _ _
 have D:=Y4 (Zcj p l t (h.below j));have k:=Y4 j;have H:=Y4 A;have y:=Y4 a;have q:w.heap.size<t.heap.size:=(Xq.1 A).1;have m:=Y4 q;clear h j A a q;go_enter func29,ntmps29;go_wp2_with (rw [y.z])
 refine D.z.mono ?_;rintro e G ⟨ev,I,rv,M,rfl,B,s⟩;have F:=Y4 (fun W=>ZzI (Zj l).1 (Zj l).2.1 (Zj l).2.2.1 (Zj l).2.2.2.1 ((Zj l).2.2.2.2:Int) W);obtain ⟨R,J,rfl,_⟩:=B.docs.shape;obtain ⟨L,T,rfl,_⟩:=B.rws.shape;have f0:=ZCQ (.slice R l.length J) (.pointer I) (.slice L (Zl (Zp l)).length T) (.pointer M) (.int .i64 0) (.int .i64 0) (.int .i64 (Zj l).1) (.int .i64 (Zj l).2.1) (.int .i64 (Zj l).2.2.1) (.int .i64 (Zj l).2.2.2.1) (.int .i64 ((Zj l).2.2.2.2:Int)) G;have i:=Y4 (k.z.trans (s.mono k.z.size));have o:=Y4 ((s.block _ m.z).trans H.z);have b:Y5 (w.heap.size<G.heap.size):=Y4 (XJ m.z s.size);clear B s D k H m;go_wp2_with fail;refine (F.z _).mono ?_;rintro e S ⟨rfl,c⟩;obtain ⟨X,n⟩:∃X:Array Value,#[.int .i64 0,.int .i64 0,.int .i64 (Zj l).1,.int .i64 (Zj l).2.1,.int .i64 (Zj l).2.2.1,.int .i64 (Zj l).2.2.2.1,.int .i64 ((Zj l).2.2.2.2:Int)]=X:=⟨_,rfl⟩;have d:X.size=7:=by rw [<- n];rfl
 have r:X.all (·.oneCell')=true:=by rw [<- n];simp [Value.oneCell']
 have f:=(c.block _ b.z).trans o.z;have hi:(prog.info? 65).map (·.size)=some X.size:=by rw [d];exact Zmq
 have x:=Y4 (setRow_heap S w.heap.size _ X _ _ f);have C:=Y4 (ZhG (g:=w.heap.size) X (i.z.trans (c.mono i.z.size)) (Xa _));have E:=Y4 hi;have z:Y5 ((#[.int .i64 0,.int .i64 0,.int .i64 0,.int .i64 0,.int .i64 0,.int .i64 0,.int .i64 0]:Array Value).size=X.size):=Y4 (by rw [d];rfl);have u:=Y4 r;have N:=Y4 f;have O:=Y4 n;clear c f hi d r o b i F;rw [n];clear n;go_wp2_with (go_loud (refine wpList_store_row rfl 65 (.tmp 2) (.tmp 6) rfl w.heap.size X rfl rfl 65 #[.int .i64 0,.int .i64 0,.int .i64 0,.int .i64 0,.int .i64 0,.int .i64 0,.int .i64 0] N.z E.z z.z u.z ?_))
 refine bodyPost_ret (v:=.agg X) (results_cell_row rfl _ _ w.heap.size 65 X (0,0) _ rfl x.z underlying65 rfl E.z) rfl ⟨by rw [O.z],C.z⟩
theorem ZtR (p:Option Addr) (l:List Zq) (i:Int) (w:World) (h:Zfn (fun _=>True) w p l) (X:ZAm l):Calls prog 27 #[.pointer p,.int .i64 i] w (Zig (atG l i) w):=by
 obtain ⟨R,S⟩:=Xn w.heap.size;obtain ⟨G,a⟩:=Xn (w.alloc (.cells #[.int .i64 0,.int .i64 0,.slice none 0 0] 59));have n:Below w.heap.size w G:=by rw [<- a];exact (Below.refl _ _).alloc (Xa _) _
 have v:G.heap.size=R+1:=by rw [<- a,<- S];simp
 have U:Y5 (Three G R 59 (.int .i64 0) (.int .i64 0) (.slice none 0 0)):=Y4 (by rw [<- a,<- S];exact Zaj w 59 _ _ _);have N:=Y4 (Zcj p l G (h.below n));have o:=Y4 n;have I:=Y4 a;have q:=Y4 v;clear h n a v;go_enter func27,ntmps27;go_wp2_with (rw [I.z])
 refine N.z.mono ?_;rintro e L ⟨Y,V,rv,fp,rfl,F,f⟩;have T:=Y4 (Zr8 Y l i L F.docs X);obtain ⟨pe,Z,rfl,_⟩:=F.docs.shape;obtain ⟨pr,cr,rfl,_⟩:=F.rws.shape;have f0:=Ztm (.slice pe l.length Z) (.pointer V) (.slice pr (Zl (Zp l)).length cr) (.pointer fp) (.int .i64 0) (.int .i64 0) (.int .i64 (Zj l).1) (.int .i64 (Zj l).2.1) (.int .i64 (Zj l).2.2.1) (.int .i64 (Zj l).2.2.2.1) (.int .i64 ((Zj l).2.2.2.2:Int)) L;have M:=Y4 (U.z.below f (by have:=q.z;omega));have z:Y5 (R<L.heap.size):=Y4 (by have:=q.z;have:=f.size;omega);have d:=Y4 (o.z.trans (f.mono o.z.size));clear F f N o q U;go_wp2_with fail;refine T.z.mono ?_;rintro e E ⟨u,rfl,r,c⟩;have m:=r;obtain ⟨D,J⟩:=Xn ((atG l i).getD ZcA);have O:=Y4 J;rw [J] at r m ⊢;clear J;obtain ⟨y,t,fs⟩:=D;dsimp only at r m ⊢;obtain ⟨B,C⟩:=Xn ((atG l i).isSome);have aa:=Y4 C;rw [C];obtain ⟨x,s,rfl,_⟩:=r.shape;have g:=z.z;have A:=M.z.below c g;obtain ⟨x0,x1,x2⟩:=A.cells;obtain ⟨m1,m2,m3,⟨k1,k2⟩,k3,k4⟩:=A.all (.int .i64 y) (.int .i64 t);have HX:=Y4 (A.set (.int .i64 y) (.int .i64 t) (.slice x fs.length s));have j:Kep (fun b=>b≠R) E (Ztn E R (.int .i64 y) (.int .i64 t) (.slice x fs.length s)):=ZqY _ _ _;have H:R<E.heap.size:=XJ g c.size
 have W:Y5 (Zig (atG l i) w (.returned (.tuple #[.agg #[.int .i64 y,.int .i64 t,.slice x fs.length s],.bool B])) (Ztn E R (.int .i64 y) (.int .i64 t) (.slice x fs.length s))):=Y4
  ⟨.slice x fs.length s,by rw [O.z,C],by
   rw [O.z];exact (Za0 r j (fun b f=>by omega)).weak fun b _ f=>⟨by have:=f.1;have:=d.z.size;omega,f.2⟩,
   (d.z.trans (c.mono d.z.size)).trans (j.below (by omega) fun k hk=>by omega)⟩
 clear r m c A j C T M z g d H;go_wp2_with fail;refine bodyPost_ret (Zde (p:=4) (u:=5) rfl underlying59 rfl ZfO _ _ R _ _ _ rfl HX.z) rfl W.z
open EV (ZD Zae ZgZ ZcB)
open GM
theorem ZBu (a b c d e f g:Value) (w:World):(Instr.field 65 (.agg #[a,b,c,d,e,f,g]) 2).run prog w=.ok c w:=by kernel_rfl
theorem Zhh (v:Value) (l:List SM.Zq) (w:World) (q:Zv w v (ZaE l)) (b:SM.isS l=true) (a:ZbV l) (hf:SM.ZaS l) (d:l≠[]):Calls prog 12 #[v] w fun e w'=>∃g,e=.returned (.tuple #[.pointer (some ⟨g,0,none⟩),.int .i64 0])/\Zfn (fun k=>w.heap.size<=k) w' (some ⟨g,0,none⟩) l/\Below w.heap.size w w':=by
 have i:ZgK (ZaE l)=some l:=Zqo hf (ZCv b a d);refine (ZmE v (ZaE l) w q (Zk9 b a)).mono ?_;rintro e w' ⟨p,rfl,c,_,o⟩;rw [i] at c ⊢;rcases c with ⟨_,h⟩|⟨g,f,j,m,n,rfl,h⟩
 ·exact absurd h d
 ·exact ⟨g,rfl,.inr ⟨g,f,j,m,n,rfl,h⟩,o⟩
theorem ZnE (w:World):Calls prog 16 #[] w fun e w'=>e=.returned (.bool true)/\Below w.heap.size w w':=by
 obtain ⟨T,d⟩:=Xn (w.alloc (.cells #[.string ⟨#[109,115,103]⟩,.string ⟨#[120]⟩] 123));have Z:Below w.heap.size w T:=by rw [<- d];exact (Below.refl _ _).alloc (Xa _) _
 have ao:T.heap.size=w.heap.size+1:=by rw [<- d];simp
 have ap:ZF Zae T (.slice (some ⟨w.heap.size,0,none⟩) 1 1) [([109,115,103],[120])]:=by
  rw [<- d];exact ZB.any (ZhS (e:=123) (S:=fun _=>True) w [[.string ⟨#[109,115,103]⟩,.string ⟨#[120]⟩]] [([109,115,103],[120])] (by unfold maxLen;simp) (Zbq.single (ZgZ.2 rfl)))
 obtain ⟨w0,r⟩:=Xn (T.alloc (.cells #[.int .i64 1,.int .i64 7,.slice (some ⟨w.heap.size,0,none⟩) 1 1] 59));have X:Below w.heap.size w w0:=by rw [<- r];exact Z.alloc (by omega) _
 have a:ZF ZD w0 (.slice (some ⟨T.heap.size,0,none⟩) 1 1) exA:=by
  rw [<- r];exact ZB.any (ZhS (e:=59) (S:=fun _=>True) T [[.int .i64 1,.int .i64 7,.slice (some ⟨w.heap.size,0,none⟩) 1 1]] exA (by unfold maxLen;simp [exA]) (Zbq.single (ZcB.2 ⟨_,rfl,ap⟩)))
 have t:=Y4 (ZeK _ exA w0 a Zsx ZjZ ZtX (by unfold exA;simp));have A:=Y4 X;have W:=Y4 d;have ai:=Y4 r;have aw:=Y4 ao;clear d Z ap r X a ao;go_enter func16,ntmps16;go_wp2_with (first|(rw [ai.z])|(rw [W.z]))
 refine t.z.mono ?_;rintro e w1 ⟨v1,rfl,C,ad⟩;have HO:=Y4 (Zhh v1 exA w1 (Zd.brow C) Zsx ZjZ ZtX (by unfold exA;simp));have H:=Y4 (A.z.trans (ad.mono A.z.size));obtain ⟨p1,c1,rfl,_⟩:=(Zd.brow C).shape;clear C ad t A W ai aw;go_wp2_with fail;refine HO.z.mono ?_;rintro e w2 ⟨g,rfl,n,U⟩;have n:=n.any;have L:=Y4 (H.z.trans (U.mono H.z.size));obtain ⟨w3,m⟩:=Xn (w2.alloc (.cells #[.int .i64 4,.int .i64 0,.slice none 0 0] 59));have F:Below w2.heap.size w2 w3:=by rw [<- m];exact (Below.refl _ _).alloc (Xa _) _
 have a:ZF ZD w3 (.slice (some ⟨w2.heap.size,0,none⟩) 1 1) exC:=by
  rw [<- m];exact ZB.any (ZhS (e:=59) (S:=fun _=>True) w2 [[.int .i64 4,.int .i64 0,.slice none 0 0]] exC (by unfold maxLen;simp [exC]) (Zbq.single (ZcB.2 ⟨_,rfl,ZB.nil_ _ _⟩)))
 have t:=Y4 (ZeK _ exC w3 a ZxU Zn0 ZtY (by unfold exC;simp));have Y:=Y4 (n.below F);have N:=Y4 (L.z.trans (F.mono L.z.size));have ab:=Y4 m;clear n U m F a HO H L;go_wp2_with (rw [ab.z])
 refine t.z.mono ?_;rintro e w4 ⟨v4,rfl,E,M⟩;have HO:=Y4 (Zhh v4 exC w4 (Zd.brow E) ZxU Zn0 ZtY (by unfold exC;simp));have y:=Y4 (N.z.trans (M.mono N.z.size));have aa:=Y4 (Y.z.below M);obtain ⟨p4,c4,rfl,_⟩:=(Zd.brow E).shape;clear E M t N ab Y;go_wp2_with fail;refine HO.z.mono ?_;rintro e w5 ⟨g',rfl,ak,x⟩;have aq:=Y4 ak.any;have v:=Y4 (aa.z.below x);have B:=Y4 (y.z.trans (x.mono y.z.size));have HP:=Y4 (ZmR (some ⟨g,0,none⟩) exA [109,115,103,58,120] w5 v.z Zsx ZjZ);rw [Zu8] at HP;clear ak x HO aa y;go_wp2_with fail;refine HP.z.mono ?_;rintro e w6 ⟨v6,rfl,O,q⟩;have af:=Y4 (v.z.below q);have am:=Y4 (aq.z.below q);have I:=Y4 (B.z.trans (q.mono B.z.size));have aj:=Y4 O;obtain ⟨p6,c6,rfl,_⟩:=PW.POn.shape O;have t:=Y4 (ZtT (.slice none 0 0) [] w6 (ZB.nil_ _ _) (.inr rfl));clear O q HP v aq B;go_wp2_with fail;refine t.z.mono ?_;rintro e w7 ⟨v7,rfl,al,c⟩;have z:=Y4 (af.z.below c);have ae:=Y4 (am.z.below c);have J:=Y4 (I.z.trans (c.mono I.z.size));have an:=PW.Za7.below aj.z c;obtain ⟨b7,o7,x7,rfl,_,_,c0,_,_⟩:=PW.POn.at_ an (k:=0) (by simp);rw [Nat.zero_mul,Xad] at c0;have c0:w7.cell? ⟨b7,o7,none⟩=some (.int .i64 0):=c0;obtain ⟨p7,c7,rfl,_⟩:=(Zd.brow al).shape;have b:=Y4 (Zrd (some ⟨g,0,none⟩) exA w7 z.z);rw [ZxT] at b;dsimp only at b;clear al c an t af am I aj;go_wp2_with fail;refine b.z.mono ?_;rintro e w8 ⟨rfl,o⟩;have R:=Y4 (z.z.below o);have V:=Y4 (ae.z.below o);have G:=Y4 (J.z.trans (o.mono J.z.size));have f2:=ZBu (.int .i64 0) (.int .i64 0) (.int .i64 7) (.int .i64 7) (.int .i64 1) (.int .i64 1) (.int .i64 1) w8;have b:=Y4 (Zjg (some ⟨g,0,none⟩) exA w8 R.z);clear o c0 z ae J;go_wp2_with fail;refine b.z.mono ?_;rintro e w9 ⟨rfl,p⟩;have ah:=Y4 (R.z.below p);have ac:=Y4 (V.z.below p);have D:=Y4 (G.z.trans (p.mono G.z.size));have b:=Y4 (ZmB (some ⟨g,0,none⟩) exA [109,115,103,58,120] w9 ah.z (fun _=>by simp));rw [ZAM] at b;have ar:(exA.length:Int)=1:=rfl;rw [ar];clear p f2 R V G;go_wp2_with fail;refine b.z.mono ?_;rintro e au ⟨rfl,l⟩;have h:=Y4 (ac.z.below l);have j:=Y4 (D.z.trans (l.mono D.z.size));have b:=Y4 (Zne (some ⟨g',0,none⟩) exC au h.z);rw [ZxV] at b;clear l ah ac D;go_wp2_with fail;refine b.z.mono ?_;rintro e av ⟨rfl,f⟩;have u:=Y4 (h.z.below f);have i:=Y4 (j.z.trans (f.mono j.z.size));have b:=Y4 (ZmB (some ⟨g',0,none⟩) exC [109,115,103,58,120] av u.z (fun _=>by simp));rw [ZAN] at b;clear f h j;go_wp2_with fail;refine b.z.mono ?_;rintro e ax ⟨rfl,s⟩;have ag:=Y4 (i.z.trans (s.mono i.z.size));clear s u i b;go_wp2_with fail;go_ret;exact ⟨rfl,ag.z⟩
open EV (ZD Zae)
theorem Zsa {a w b:World} (h:Below a.heap.size a w) (k:Below w.heap.size w b):Below a.heap.size a b:=h.trans (k.mono h.size)
def ZjG (w:World) (e:Ending) (w':World):Prop:=e=.returned (.bool true)/\Below w.heap.size w w'
open RowKit MM GB
open DT (Zbr Zf7 Zsv)
theorem ZDl:Elem Zio prog 40 9 16:=⟨underlying40,by
 have h:(prog.info? 9).map (fun i=>(i.zero,i.size,i.bytes))=some (some (.string ⟨#[]⟩),1,16):=by kernel_rfl
 obtain ⟨i,a,d,c,b⟩:=info_parts h;exact ⟨i,_,a,d,c,b,rfl⟩⟩
theorem ZBW (S:Nat->Prop) (w:World) (s:Xu):Zds Zio S (w.alloc (.cells #[.string ⟨s.toArray⟩] 9)) (.slice (some ⟨w.heap.size,0,none⟩) 1 1) [s]:=Zdh 9 (show Zio.on S w [.string ⟨s.toArray⟩] s from rfl)
theorem ZBs {B:Nat} {S:Nat->Prop} {w:World} {v:Value} {ss:List Xu} (h:ZC Zio 9 B S w v ss):ZcF w v ss:=by
 obtain ⟨a,c,b⟩:=h
 have e:a=ss.map fun s=>[ZBV s]:=List.ext_getElem (by rw [XF];exact b.1) fun i hi d=>by
  have hs:i<ss.length:=by rw [<- b.1];exact hi
  rw [Xax];exact b.2 i hi hs
 rw [e,Zc8] at c;exact ZbL.trow c
theorem Zhi {w:World} {s m:Nat} {e k:TypeId} {s1 s2 o q:Nat} {f h:Value} {v l:List Value} (p:w.ownsRow s e s1 f o v) (r:w.ownsRow m k s2 h q l) (n:e≠k) {g:Nat} (i:f.ownBlock=some g):h.ownBlock≠some g:=fun d=>by
 rcases p.2 with ⟨rfl,_⟩|⟨g1,c1,c,rfl,_,b,_⟩
 ·cases i
 ·rcases r.2 with ⟨rfl,_⟩|⟨g2,c2,j,rfl,_,a,_⟩
  ·cases d
  ·cases i
   cases d
   rw [b] at a;simp only [Xx,Obj.cells.injEq] at a;exact n a.2.1
theorem ZBl {rows:List ZgP} {k:Nat} (a:k<rows.length):(rows.take (k+1)).map (·.1)=(rows.take k).map (·.1)++[(rows[k]).1]:=by
 rw [XG a,XM];rfl
abbrev NoB:Nat->Prop:=fun _=>False
structure Gr (B:Nat) (w:World) (u x t:Value) (L:Xu) (es:List DM.ZN) (ss:List Xu):Prop where
 u:Zd B w u L
 x:ZC Zbr 102 B NoB w x es
 t:ZC Zio 9 B NoB w t ss
variable {B : Nat} {w w' : World} {u x t : Value} {L : Xu} {es : List DM.ZN} {ss : List Xu}
theorem Gr.below (h:Gr B w u x t L es ss) (a:Below w.heap.size w w'):Gr B w' u x t L es ss :=
 ⟨h.u.keep a,h.x.keep (Za (fun _=>True) a) (fun _ _ _=>trivial) fun _ _=>trivial,h.t.keep (Za (fun _=>True) a) (fun _ _ _=>trivial) fun _ _=>trivial⟩
theorem Gr.setX {f:Value} {a:List DM.ZN} (h:Gr B w u x t L es ss) (i:ZC Zbr 102 B NoB w' f a) (d:Kep (fun b=>x.ownBlock≠some b) w w'):Gr B w' u f t L a ss:=by
 obtain ⟨r1,e,_⟩:=h.x;obtain ⟨r2,j,_⟩:=id h.t;exact ⟨Zd.kepOwn h.u d fun g c=>Zhi h.u e (by decide) c,i,h.t.keep d (fun _ _ h=>h.elim) fun g c=>Zhi j e (by decide) c⟩
theorem Gr.setT {f:Value} {a:List Xu} (h:Gr B w u x t L es ss) (i:ZC Zio 9 B NoB w' f a) (d:Kep (fun b=>t.ownBlock≠some b) w w'):Gr B w' u x f L es a:=by
 obtain ⟨r1,e,_⟩:=h.t;obtain ⟨r2,j,_⟩:=id h.x;exact ⟨Zd.kepOwn h.u d fun g c=>Zhi h.u e (by decide) c,h.x.keep d (fun _ _ h=>h.elim) fun g c=>Zhi j e (by decide) c,i⟩
theorem Gr.setU {u':Value} {d:Xu} (h:Gr B w u x t L es ss) (e:Zd B w' u' d) (c:Kep (fun b=>u.ownBlock≠some b) w w'):Gr B w' u' x t d es ss:=by
 obtain ⟨r1,i,_⟩:=id h.t;obtain ⟨r2,f,_⟩:=id h.x;exact ⟨e,h.x.keep c (fun _ _ h=>h.elim) fun g a=>Zhi f h.u (by decide) a,h.t.keep c (fun _ _ h=>h.elim) fun g a=>Zhi i h.u (by decide) a⟩
end SG
namespace SG
open RowKit MM
open EV (ZD Zae)
open SM (Zq isS ZaS ZgL Zdx)
open FM (Zbv Zia Zja ZdG)
open GM (ZbV ZeJ Zis ZgK)
def ZwT (r:Xu×Int) (w:World) (e:Ending) (w':World):Prop:=∃u,e=.returned (.tuple #[u,.int .i64 r.2])/\Zd w.heap.size w' u r.1/\Below w.heap.size w w'
def Zw3:Prop:=∀(v:Value) (l:List Zq) (w:World),ZF ZD w v l->ZbV l->ZaS l->Calls prog 11 #[v] w (ZwT (ZeJ l) w)
