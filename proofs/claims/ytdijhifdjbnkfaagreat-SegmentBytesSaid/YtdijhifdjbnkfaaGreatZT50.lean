import Derived.Test.YtdijhifdjbnkfaaGreatZT10
import Derived.Test.YtdijhifdjbnkfaaGreatZT40
import Derived.Test.YtdijhifdjbnkfaaGreatZT42
import Derived.Test.YtdijhifdjbnkfaaGreatZT47
import Derived.Test.YtdijhifdjbnkfaaGreatZT48
import Derived.Test.YtdijhifdjbnkfaaGreatZT49
set_option maxRecDepth 100000
set_option maxHeartbeats 0
set_option linter.unusedVariables false
set_option linter.unusedSimpArgs false
namespace Go.Proofs.YtdijhifdjbnkfaaGreat
open Lib (hid)
open Tryz
namespace MM
open RowKit Go.ChangeShapes Go.WideShapes
variable {P:Program} {t:TypeId}
def ZgG (P:Program) {α:Type} (C:Codec α) (G:α->Prop) (t:TypeId):Prop :=
 ∀{H:Type} {enc:TypeId×Value->H} {W:World} {base n:Nat} {b:List Value} {x:DataW H×List MemPlace},DataW.trod enc P W base (fun _=>true) true n t b=some x->∃a,C.on (fun _=>True) W b a/\G a
def ZBZ (z:Int):Prop := -9223372036854775808<=z/\z<=9223372036854775807
theorem Zor (b:P.underlying t=some (.int .i64)):ZgG P Zbw ZBZ t:=fun h=>by
 obtain ⟨z,rfl,_,a⟩:=DataW.trod_int b h;refine ⟨z,rfl,?_⟩;simp only [Lit.wf,Xy,Xg] at a;have d:IntKind.i64.min = -9223372036854775808:=by decide
 have c:IntKind.i64.max=9223372036854775807:=by decide
 rw [d,c] at a;exact a
theorem Zot (a:P.underlying t=some .string):ZgG P Zij (fun l=>l.length<=maxLen) t:=fun h=>by
 obtain ⟨s,rfl,_,hs⟩:=DataW.trod_string a h;exact ⟨s.data.toList,rfl,by simpa using hs⟩
theorem Zos {α:Type} [Inhabited α] {C:Codec α} {G:α->Prop} {T e:TypeId} (X:P.underlying T=some (.slice e)) (R:P.cellsOf e=C.size) (he:ZgG P C G e):ZgG P (Zfu C) (fun l=>(∀a∈l,G a)/\l.length<=maxLen) T:=fun {H enc W base n cs x} h=>by
 rcases Deep.open_slice X h with ⟨rfl,_⟩|⟨a,len,ac,m,k,D,Pl,rfl,_,U,hm,y,_,hx⟩
 ·exact ⟨[],⟨_,rfl,ZD.nil_ _ _⟩,by simp,by simp [maxLen]⟩
 ·simp only [if_true] at y;subst y
  have w:∀i,i<len->∃q:α×List Value,W.cells? base (a.add (i*C.size)) C.size=some q.2/\C.on (fun _=>True) W q.2 q.1/\G q.1:=fun i hi=>by
   obtain ⟨F,O,h2⟩:=hx i (by omega);obtain ⟨d,h3,Y⟩:=he h2;rw [R] at O;exact ⟨(d,F),O,h3,Y⟩
  obtain ⟨q,p⟩:=Deep.choose_lt w;refine ⟨(List.range len).map fun i=>(q i).1,⟨_,rfl,some a,m,(List.range len).map fun i=>(q i).2,by simp,by simpa using U,hm,(fun h=>by cases h),⟨by simp,fun i hi Z => ?_⟩,?_⟩,fun d S => ?_,by simp;omega⟩
  ·have B:i<len:=by simpa using hi
   simp only [XaA,List.getElem_range];exact (p i B).2.1
  ·by_cases h0:len=0
   ·left;simp [h0]
   ·right
    have c:∀r∈(List.range len).map (fun i=>(q i).2),r.length=C.size:=fun r V=>by
     obtain ⟨i,hi,rfl⟩:=XY.1 V;exact C.len (p i (List.mem_range.1 hi)).2.1
    have cell:∀i,i<len->∀j u,(q i).2[j]? = some u->W.cell? ((a.add (i*C.size)).add j)=some u:=fun i hi j u v=>by
     obtain ⟨_,J,g⟩:=World.cells?_some (p i hi).1;have o:=(Xal.1 v).1;have:=g j (by omega);rw [this];simpa using v
    have N:=C.pos;have aa:=C.len (p 0 (by omega)).2.1;obtain ⟨u0,A⟩:∃u,(q 0).2[0]? = some u:=⟨_,XW (by omega)⟩;have c0:=cell 0 (by omega) 0 u0 A;obtain ⟨b,off,s⟩:=a
    have f:s=none:=by
     have:=World.cell?_spot c0;simpa [Addr.add] using this
    subst f;refine ⟨b,off,rfl,?_,trivial,fun j u v => ?_⟩
    ·rw [ZY,ZY] at c0
     by_cases I:b<W.heap.size
     ·exact I
     ·simp [World.cell?,Xaw (XaS I)] at c0
    ·have o:=(Xal.1 v).1;rw [ZeQ c,XE,List.length_range] at o;have hi:j / C.size<len:=(Nat.div_lt_iff_lt_mul N).2 o;have L:=XaN j N;have E:=Nat.div_add_mod j C.size;have ab:=C.len (p _ hi).2.1;obtain ⟨u',z⟩:∃u,(q (j / C.size)).2[j%C.size]? = some u:=⟨_,XW (by omega)⟩;have M:=flat_get c (j / C.size) (by simpa using hi) (j%C.size) u' (by simpa using z);have e:j / C.size*C.size+j%C.size=j:=by rw [Nat.mul_comm];exact E
     rw [e,v] at M;obtain rfl:=XP M;have:=cell _ hi _ _ z;rw [ZY,ZY,Xav,e] at this;exact this
  ·obtain ⟨i,hi,rfl⟩:=XY.1 S;exact (p i (List.mem_range.1 hi)).2.2
theorem ZiD {α β:Type} {C:Codec α} {D:Codec β} {G:α->Prop} {F:β->Prop} {f0 f1:Field} (s:P.underlying t=some (.struct #[f0,f1]))
  (i:f0.offset=0) (d:f1.offset=C.size) (j:P.cellsOf f0.type=C.size) (g:P.cellsOf f1.type=D.size) (m:P.cellsOf t=C.size+D.size) (q:ZgG P C G f0.type) (r:ZgG P D F f1.type) :
  ZgG P (ZeJ C D) (fun p=>G p.1/\F p.2) t:=fun {H enc W base n c x} h=>by
 obtain ⟨y0,y1,k,_,y,o,v⟩:=trod_struct2 s h;obtain ⟨a,l,u⟩:=q o;obtain ⟨b,f,w⟩:=r v;rw [i,j,Xap] at l;rw [d,g] at f;rw [m] at y;have e:(c.drop C.size).take D.size=c.drop C.size:=XM (by rw [Xj];omega);rw [e] at f;exact ⟨(a,b),⟨c.take C.size,c.drop C.size,(X6 _ _).symm,l,f⟩,u,w⟩
theorem ZrD {α:Type} {C:Codec α} {G:List α->Prop} {H:Type} {enc:TypeId×Value->H} {W:World} {base:Nat} {a:Option Addr} {len b:Nat} {d:DataW H} {p:List MemPlace} (R:ZgG P (Zfu C) G t)
  (h:∃c,DataW.trod enc P W base (fun _=>true) true c t (Value.slice a len b).cells.toList=some (d,p)):∃l,ZN C W (.slice a len b) l/\G l:=by
 obtain ⟨c,j⟩:=h;obtain ⟨l,⟨v,f,g⟩,i⟩:=R j;have e:(Value.slice a len b).cells.toList=[.slice a len b]:=rfl;rw [e] at f;obtain rfl:Value.slice a len b=v:=by simpa using f
 exact ⟨l,g,i⟩
end MM
namespace SG
open RowKit MM
open EV (ZA Z8)
open SM (Zo isS ZaH Zek)
open DT (Zdm Zfr)
open DM (ZbJ)
open SR (Zaa)
open GM (Six ZhB Zdv Zin Zf9 ZqJ Zph Zrc Zax Zdw ZeL Ze9 ZcD Z9 Zn Zt Zp Zak Zg1 sized)
variable {S:Nat->Prop} {w w':World} {g:Nat} {L:List Xu} {v:Value}
theorem Zln {off n c:Nat} (h:ZD (Zfu cU8) S w (.slice (some ⟨g,off,none⟩) n c) L) (k:Nat) (i:k<L.length):∃u,BOn S w u L[k]/\w.cell? ⟨g,off+k,none⟩=some u:=by
 obtain ⟨b,o,vs,d,_,_,⟨u,f,a⟩,e⟩:=h.at_ i;simp only [Xv,Addr.mk.injEq,and_true] at d;obtain ⟨rfl,rfl⟩:=d;refine ⟨u,a,?_⟩;have:=e 0 u (by rw [f];rfl)
 rwa [show (Zfu cU8).size=1 from rfl,XaG,Xah] at this
theorem ZhV (h:ZD (Zfu cU8) S w v L) (a:Below w.heap.size w w'):ZD (Zfu cU8) S w' v L:=h.keep (Za S a) fun _ _ h=>h
theorem ZsO {W:World} {k:Nat} {u:Value} (h:w.cell? ⟨g,k,none⟩=some u) (b:Below w.heap.size w W):W.cell? ⟨g,k,none⟩=some u:=by
 have a:g<w.heap.size:=by
  cases hh:w.heap[g]? with
  | none=>simp [World.cell?,hh] at h
  | some x=>exact (Xo.1 hh).1
 rw [b.cell a];exact h
theorem Zw7 {B:Nat} {l:List Zo} (h:Zaa B w v l):ZD ZA (fun k=>B<=k) w v l:=by
 obtain ⟨S,e,a⟩:=h;exact a.ron (fun g c=>(a.cells c).1) fun b _ d=>(e b d).1
def ZBQ (b:Xu) (w:World) (e:Ending) (w':World):Prop :=
 ∃p,e=.returned (.tuple #[.pointer p,.int .i64 (if (ZcD b).isSome then 0 else 130)])/\Zf1 (fun k=>w.heap.size<=k) w' p ((ZcD b).getD [])/\(ZcD b=none->p=none)/\Below w.heap.size w w'
theorem ZmA {b:Xu} (h:ZcD b=none) (a:Below w.heap.size w w'):ZBQ b w (.returned (.tuple #[.pointer none,.int .i64 130])) w':=by
 refine ⟨none,by rw [h];rfl,.inl ⟨rfl,by rw [h];rfl⟩,fun _=>rfl,a⟩
theorem Zji (v:Value) (b:Xu) (w:World) (hr:Zq w v b) (hs:ZhB b):Calls prog 12 #[v] w (ZBQ b w):=by
 have HC:=hid (ZBy v b w hr);obtain ⟨pv,cv,aO,_⟩:=hr.shape;have HR:=hid hr;rw [aO] at HR HC ⊢;clear hr aO;go_enter func12,ntmps12;go_wp2_with fail;refine HC.out.mono ?_;rintro e w1 ⟨ad,⟨vs,rfl,bi,aU⟩|⟨vs,L,rfl,h6,i⟩⟩
 ·have HQ:=hid (ZmA (Zrc aU) ad);clear ad aU HC HR;go_wp2_with fail;go_ret2;exact HQ.out
 ·have aF:=h6.six
  obtain ⟨g,off,ac,bh⟩:∃(g off ac:Nat),vs=.slice (some ⟨g,off,none⟩) 6 ac:=by
   obtain ⟨p,ac,rfl,_⟩:=i.shape;obtain ⟨b',o',bp,rfl,_⟩:=i.at_ (k:=0) (by omega);exact ⟨b',o',ac,by rw [aF]⟩
  subst bh;obtain ⟨u0,af,c0⟩:=Zln i 0 (by omega);rw [Xah] at c0
  have C:L[0]=L.headD []:=by
   cases L with
   | nil=>simp at aF
   | cons a t=>rfl
  rw [C] at af;have s:=hs.2 L h6;have HD:=hid (SR.ZAh u0 _ w1 af.brow (by omega));obtain ⟨bn,bk,rfl,_⟩:=af.shape;obtain ⟨X,hX⟩:=Xn (L.headD []);rw [hX] at HD c0;have HX:=hid hX;have H6:=hid h6;have al:=hid i;have ab:=hid ad;have ap:=hid s;clear ad i h6 af hX s HC C;go_wp2_with fail;refine HD.out.mono ?_;rintro e w2 ⟨ud,rfl,y,aq⟩;have o:(Zek X).getD []=Zdv L:=by rw [<- HX.out];rfl
  rw [o] at y;have HE:=hid (Zem ud (Zdv L) w2 y.any (Zf9 ap.out) (Zin L));obtain ⟨l,hl⟩:=Xn (Zdv L);have HL:=hid hl;rw [hl] at y HE;obtain ⟨pd,cd,rfl,_⟩:=y.any.shape;have aG:=hid (y.base ab.out.size);have ax:=hid (ab.out.trans (aq.mono ab.out.size));have R:=hid (ZhV al.out aq);clear y aq hl HD o al c0;go_wp2_with fail;refine HE.out.mono ?_;rintro e w3 ⟨ue,rfl,aa,ag⟩;have m:=hid (ax.out.trans (ag.mono ax.out.size));have c:=hid (ZhV R.out ag);have n:=hid (aG.out.keep (Za (fun _=>True) ag) fun _ _ _=>trivial);have aj:=hid (Zq.below HR.out m.out);have F:=ZeL l;obtain ⟨⟨x,z⟩,ay⟩:∃r,Zdw l=r:=⟨_,rfl⟩;rw [ay] at aa F ⊢;dsimp only at aa ⊢;have A:=hid ay;have O:=hid (Zd.brow aa);obtain ⟨px,cx,rfl,_⟩:=O.out.shape;clear aa ag HE aG R ax ab HR ay
  by_cases hz:z=0
  ·subst hz;have T:=hid (ZnS _ _ x b w3 O.out aj.out)
   by_cases H:x=b
   ·rw [Xw H] at T;subst H;clear F;have am:=ZqJ H6.out (by rw [HL.out];exact A.out);rw [HL.out] at am;obtain ⟨aC,a3⟩:=am;have hS:=(Ze9 A.out).1;have aS:=(Ze9 A.out).2.1;have s:=Zf9 ap.out;rw [HL.out] at s;have hz:=sized hS s;subst a3;obtain ⟨es,u⟩:=Xn (Z9 0 (Zt l));obtain ⟨ps,au⟩:=Xn (Zn (Zt l));obtain ⟨fs,Z⟩:=Xn (Zak (Zt l));obtain ⟨u3,E,c3⟩:=Zln c.out 3 (show 3<6 by omega);have E:BOn (fun k=>w.heap.size<=k) w3 u3 (ZbJ es):=by rw [<- u];exact E
    have I:(ZbJ es).length<=1000000000000:=by
     have:=hz.sects (ZbJ (Z9 0 (Zt l))) (by unfold Zax;simp);rw [u] at this;omega
    have aP:DM.Zng (ZbJ es)=some es:=DM.Zp3 (by rw [<- u];exact hz.are);have aQ:8<=fs.length/\fs.length<=131072:=by rw [<- Z,Zg1];exact BM.Zd4 _
    have V:=hid (DT.Zji u3 (ZbJ es) w3 E.brow I);rw [aP] at V;obtain ⟨bo,bl,rfl,_⟩:=E.shape;have ba:=hid u;have aW:=hid u;have aJ:=hid au;have a2:=hid Z;have aH:=hid au;have aV:=hid Z;have av:=hid aC;have aT:=hid aS;have az:=hid aQ;obtain ⟨n3,aI⟩:=Xn ((ZbJ es).length);rw [aI] at V c3;clear s hz u au Z aC aS aQ aP E I O aj A HX ap aI;go_wp2_with fail;refine T.out.mono ?_;rintro e w4 ⟨rfl,rfl⟩;clear T;go_wp2_with fail;refine V.out.mono ?_;rintro e w5 ⟨pt,rfl,_,aN,ak⟩;obtain ⟨gt,rfl,aL⟩:=aN es rfl;have aB:=hid aL;have j:=hid (ZhV c.out ak);have ao:=hid (n.out.keep (Za (fun _=>True) ak) fun _ _ _=>trivial);have M:=hid (m.out.trans (ak.mono m.out.size));obtain ⟨u4,G,c4⟩:=Zln j.out 4 (show 4<6 by omega);have G:BOn (fun k=>w.heap.size<=k) w5 u4 fs:=by rw [<- aV.out];exact G
    have a0:=hid (BL.Zuk u4 fs w5 G.brow az.out.1 az.out.2);obtain ⟨bm,bj,rfl,_⟩:=G.shape;clear aL ak V aN c n G c3;go_wp2_with fail;refine a0.out.mono ?_;rintro e w6 ⟨gf,bf,cf,rfl,a1,a7,bc,Y⟩;have aA:=hid (M.out.trans (Y.mono M.out.size));obtain ⟨wd,ar⟩:=Xn w6.drew;have ah:Below w6.heap.size w6 wd:=by rw [<- ar];exact (Below.refl _ _).drew
    have a6:=hid ar;have q:=Y.trans (ah.mono Y.size);have aw:=hid (aA.out.trans (ah.mono aA.out.size));have B:=ZhV j.out q;have J:=ao.out.keep (Za (fun _=>True) q) fun _ _ _=>trivial;have aK:BL.FAt wd gf bf cf fs:=a1.keep (Za (fun _=>True) ah) trivial trivial;have an:Zfr (fun b=>w.heap.size<=b) wd gt es:=aB.out.keep (Za _ q) fun b _ hb=>by have:=m.out.size;omega
    obtain ⟨u2,N,c2⟩:=Zln B 2 (show 2<6 by omega);have N:BOn (fun k=>w.heap.size<=k) wd u2 ps:=by rw [<- aH.out];exact N
    obtain ⟨ai,ae,rfl,_⟩:=N.shape;have aE:=hid (Zmc _ l wd J.any aT.out);have aY:w.heap.size<=gf:=by have:=M.out.size;omega
    have aM:w.heap.size<=bf:=by have:=M.out.size;omega
    have aD:=hid aK;have aB:=hid an;have aR:=hid J;have bd:=hid N;have be:=hid aY;have a9:=hid aM;have i2:(2:Int)<6:=by omega
    clear j ao a1 a7 bc Y ah q ar aK an J B N aY aM a0 aA M m c4 aV ba aH az;go_wp2_with fail;refine RG.ZaF [(0,true),(1,true),(2,true),(3,true),(4,true),(5,true),(6,true),(7,true),(8,false),(9,true),(10,false),(11,true),(12,true)] (by kernel_rfl) (by kernel_rfl) rfl (by kernel_rfl) (fun _ _ d _ _ h=>by cases d<;>exact h) ?_;simp only [RG.Zy,XF,XV,XZ,X4,XX];rw [a6.out]
    iterate 4 (refine RG.take (by rfl) (by intro W hW;go_simp;with_reducible rfl) ?_;simp only [Act.put,Xr,Xs,Xq])
    refine RG.take (v:=.slice ai ps.length ae) (by rfl) (by intro W hW;have cW:=(ZsO c2 hW);go_simp) ?_;simp only [Act.put,Xr,Xs,Xq]
    iterate 3 (refine RG.take (by rfl) (by intro W hW;go_simp;with_reducible rfl) ?_;simp only [Act.put,Xr,Xs,Xq])
    refine RG.alone (by rfl) (fun K hK => ?_);go_simp;refine aE.out.mono ?_;rintro e w7 ⟨rfl,D⟩;go_simp;refine hK.out _ _ D ?_;clear hK K
    iterate 1 (refine RG.take (by rfl) (by intro W hW;go_simp;with_reducible rfl) ?_;simp only [Act.put,Xr,Xs,Xq])
    refine RG.alone (by rfl) (fun K hK => ?_);go_simp;refine hK.out _ _ ((Below.refl _ _).alloc (Xc _) _) ?_;clear hK K;obtain ⟨w8,U⟩:=Xn (w7.alloc (.cells (ZCz (.slice pd l.length cd) (some ⟨gt,0,none⟩) (.slice ai ps.length ae) (some ⟨gf,0,none⟩) (Zp l)) 88));have aX:w8.heap[w7.heap.size]? = some (.cells (ZCz (.slice pd l.length cd) (some ⟨gt,0,none⟩) (.slice ai ps.length ae) (some ⟨gf,0,none⟩) (Zp l)) 88 (0,0)):=by rw [<- U];exact heap_alloc_new _ _
    have aZ:Below w7.heap.size w7 w8:=by rw [<- U];exact (Below.refl _ _).alloc (Xc _) _
    have a4:=hid aX;have bg:Hid (w7.alloc (.cells #[.slice pd l.length cd,.pointer (some ⟨gt,0,none⟩),.slice ai ps.length ae,.pointer (some ⟨gf,0,none⟩),.int .i64 0,.int .i64 0,.int .i64 (Zp l).1,.int .i64 (Zp l).2.1,.int .i64 (Zp l).2.2.1,.int .i64 (Zp l).2.2.2.1,.int .i64 ((Zp l).2.2.2.2:Int)] 88)=w8):=hid U;have a8:=hid (D.trans (aZ.mono D.size));have bb:=hid D;clear D aZ aX U aE;rw [bg.out]
    iterate 2 (refine RG.take (by rfl) (by intro W hW;go_simp;with_reducible rfl) ?_;simp only [Act.put,Xr,Xs,Xq])
    refine RG.done ?_;go_wp2_with fail;go_ret2;have f:Below wd.heap.size wd w8:=a8.out;refine ⟨some ⟨w7.heap.size,0,none⟩,by rw [av.out];rfl,?_,(fun h=>by rw [av.out] at h;cases h),aw.out.trans (f.mono aw.out.size)⟩;rw [av.out,Option.getD_some];refine .inr ⟨w7.heap.size,_,_,_,_,rfl,Xx aw.out.size bb.out.size,a4.out,?_⟩;have o:Zaa w.heap.size w8 (.slice pd l.length cd) l:=aR.out.keep (Za (fun _=>True) f) fun _ _ _=>trivial;refine ⟨Zw7 o,.inr ⟨gt,rfl,by rw [aW.out];exact aB.out.keep (Za _ f) fun _ _ h=>h⟩,?_,.inr ⟨aT.out,gf,bf,cf,rfl,?_,be.out,a9.out⟩⟩
    ·rw [aJ.out];exact bd.out.below f
    ·rw [a2.out];exact aD.out.keep (Za (fun _=>True) f) trivial trivial
   ·rw [XB H] at T;have HQ:=hid (ZmA (Zph H6.out (fun h=>H (by rw [HL.out,A.out] at h;exact (X7 h).1))) m.out);clear F H O aj n c;go_wp2_with fail;refine T.out.mono ?_;rintro e w4 ⟨rfl,rfl⟩;go_wp2_with fail;go_ret2;exact HQ.out
  ·have HQ:=hid (ZmA (Zph H6.out (fun h=>hz (by rw [HL.out,A.out] at h;exact (X7 h).2))) m.out)
   have a5:z=130\/z=2:=by
    rcases F with h|h|h
    ·exact .inl (X7 h).2
    ·exact .inr (X7 h).2
    ·exact absurd (X7 h).2 hz
   clear F O aj n c;rcases a5 with rfl|rfl
   all_goals
    go_wp2_with fail;go_ret2;exact HQ.out
open EV (ZA Z8 ZcG Zba)
open SR (Zmq)
open EM (Zs)
open SM (Zo isS ZaH Zek Zhc)
open GM (ZbA Sized sized Z9 Zn Zt Zp Zak Zb2)
theorem Zy9 (a b c d e f g h i j k:Value) (w:World):(Instr.field 88 (.agg #[a,b,c,d,e,f,g,h,i,j,k]) 0).run prog w=.ok a w:=by kernel_rfl
theorem ZsP (a b c d e f g h i j k:Value) (w:World):(Instr.field 88 (.agg #[a,b,c,d,e,f,g,h,i,j,k]) 1).run prog w=.ok (.agg #[b,c,d]) w:=by kernel_rfl
theorem ZCA (a b c d e f g h i j k:Value) (w:World):(Instr.field 88 (.agg #[a,b,c,d,e,f,g,h,i,j,k]) 2).run prog w=.ok (.agg #[e,f,g,h,i,j,k]) w:=by kernel_rfl
theorem Zlf (p:Option Addr) (l:List Zo) (w:World) (h:Zf1 (fun _=>True) w p l):Calls prog 28 #[.pointer p] w fun e w'=>e=.returned (.int .i64 (l.length:Int))/\Below w.heap.size w w':=by
 have c:=hid (ZdE p l w h);clear h;go_enter func28,ntmps28;go_wp2_with fail;refine c.out.mono ?_;rintro e b ⟨i,q,rv,n,rfl,a,d⟩;have o:=hid (ZjO i l b a.docs);have k:=hid d;obtain ⟨j,m,rfl,_⟩:=a.docs.shape;obtain ⟨g,f,rfl,_⟩:=a.rws.shape;have f0:=Zy9 (.slice j l.length m) (.pointer q) (.slice g (Zn (Zt l)).length f) (.pointer n) (.int .i64 0) (.int .i64 0) (.int .i64 (Zp l).1) (.int .i64 (Zp l).2.1) (.int .i64 (Zp l).2.2.1) (.int .i64 (Zp l).2.2.2.1) (.int .i64 ((Zp l).2.2.2.2:Int)) b;clear a d c;go_wp2_with fail;refine o.out.mono ?_;rintro e w2 ⟨rfl,rfl⟩;go_wp2_with fail;go_ret;exact ⟨rfl,k.out⟩
theorem Zl3 (p:Option Addr) (l:List Zo) (w:World) (h:Zf1 (fun _=>True) w p l) (n:Zz4 l) (o:l.length<=65536):Calls prog 15 #[.pointer p] w fun e w'=>(∃u,e=.returned u/\ZN ZA w' u l)/\Below w.heap.size w w':=by
 have f:=hid (ZdE p l w h);clear h;go_enter func15,ntmps15;go_wp2_with fail;refine f.out.mono ?_;rintro e i ⟨v,r,rv,x,rfl,b,g⟩;have k:=hid (ZoT v l i b.docs n o);have c:=hid g;obtain ⟨m,s,rfl,_⟩:=b.docs.shape;obtain ⟨q,t,rfl,_⟩:=b.rws.shape;have f0:=Zy9 (.slice m l.length s) (.pointer r) (.slice q (Zn (Zt l)).length t) (.pointer x) (.int .i64 0) (.int .i64 0) (.int .i64 (Zp l).1) (.int .i64 (Zp l).2.1) (.int .i64 (Zp l).2.2.1) (.int .i64 (Zp l).2.2.2.1) (.int .i64 ((Zp l).2.2.2.2:Int)) i;clear b g f;go_wp2_with fail;refine k.out.mono ?_;rintro e w2 ⟨⟨u,rfl,d⟩,a⟩;have j:=hid (And.intro d (c.out.trans (a.mono c.out.size)));obtain ⟨pu,cu,rfl,_⟩:=d.shape;clear d a k c;go_wp2_with fail;go_ret;exact ⟨⟨_,rfl,j.out.1⟩,j.out.2⟩
theorem Zsz (p:Option Addr) (l:List Zo) (u:Xu) (w:World) (h:Zf1 (fun _=>True) w p l) (A:isS l=true) (d:ZbA l):Calls prog 20 #[.pointer p,.string ⟨u.toArray⟩] w (Znu (Zs (Zt l) u) w):=by
 have c:=sized A d;have i:=hid (ZdE p l w h);clear h;go_enter func20,ntmps20;go_wp2_with fail;refine i.out.mono ?_;rintro e m ⟨ev,k,t,q,rfl,a,j⟩;have o:=hid (Zka k t (.pointer q) rfl (Zt l) u m a.dict c.are (BOn.brow a.rws) (by have:=c.posts;omega) (fun r x=>(c.row r x).2.2.2.1));have g:=hid j;obtain ⟨s,z,rfl,_⟩:=a.docs.shape;obtain ⟨y,B,rfl,_⟩:=a.rws.shape;have f0:=ZsP (.slice s l.length z) (.pointer k) (.slice y (Zn (Zt l)).length B) (.pointer q) (.int .i64 0) (.int .i64 0) (.int .i64 (Zp l).1) (.int .i64 (Zp l).2.1) (.int .i64 (Zp l).2.2.1) (.int .i64 (Zp l).2.2.2.1) (.int .i64 ((Zp l).2.2.2.2:Int)) m;clear a j i c;go_wp2_with fail;refine o.out.mono ?_;rintro e w2 ⟨v,rfl,f,b⟩;have n:=hid (And.intro f (g.out.trans (b.mono g.out.size)));obtain ⟨pu,cu,rfl,_⟩:=PW.POn.shape f;clear f b o g;go_wp2_with fail;go_ret;exact ⟨_,rfl,n.out.1,n.out.2⟩
theorem ZqE (p:Option Addr) (l:List Zo) (u:Xu) (w:World) (h:Zf1 (fun _=>True) w p l) (z:l≠[]->u.length<=1000000):Calls prog 22 #[.pointer p,.string ⟨u.toArray⟩] w fun e w'=>e=.returned (.bool (!l.isEmpty&&BM.Zk3 (Zak (Zt l)) u))/\Below w.heap.size w w':=by
 have o:=hid (ZdE p l w h);clear h;go_enter func22,ntmps22;go_wp2_with fail;refine o.out.mono ?_;rintro e c ⟨ev,s,x,r,rfl,a,q⟩
 have t:Calls prog (61) #[.agg #[.pointer s,x,.pointer r],.string ⟨u.toArray⟩] c fun e w'=>e=.returned (.bool (!l.isEmpty&&BM.Zk3 (Zak (Zt l)) u))/\Below c.heap.size c w':=by
  rcases a.fil with ⟨rfl,rfl⟩|⟨d,g,b,n,rfl,E,_,_⟩
  ·exact Zyg _ _ rfl a.rws.oneCell u c
  ·have:l.isEmpty=false:=by simpa using d
   rw [this];exact Zyh _ _ rfl a.rws.oneCell g b n _ u c E (z d)
 have m:=hid t;have i:=hid q;obtain ⟨v,A,rfl,_⟩:=a.docs.shape;obtain ⟨y,D,rfl,_⟩:=a.rws.shape;obtain ⟨B,k⟩:=Xn ((!l.isEmpty&&BM.Zk3 (Zak (Zt l)) u));have j:=hid k;rw [k] at m;have f0:=ZsP (.slice v l.length A) (.pointer s) (.slice y (Zn (Zt l)).length D) (.pointer r) (.int .i64 0) (.int .i64 0) (.int .i64 (Zp l).1) (.int .i64 (Zp l).2.1) (.int .i64 (Zp l).2.2.1) (.int .i64 (Zp l).2.2.2.1) (.int .i64 ((Zp l).2.2.2.2:Int)) c;clear a q o t k;go_wp2_with fail;refine m.out.mono ?_;rintro e w2 ⟨rfl,f⟩;have C:=hid (i.out.trans (f.mono i.out.size));clear f m i;go_wp2_with fail;go_ret;exact ⟨by rw [j.out];rfl,C.out⟩
theorem ZsY (p:Option Addr) (l:List Zo) (w:World) (h:Zf1 (fun _=>True) w p l):Calls prog 31 #[.pointer p] w fun e w'=>e=.returned (.int .i64 ((Zt l).length:Int))/\Below w.heap.size w w':=by
 have g:=hid (ZdE p l w h);clear h;go_enter func31,ntmps31;go_wp2_with fail;refine g.out.mono ?_;rintro e f ⟨ev,k,r,j,rfl,a,i⟩;have d:=hid (Zrk k r (.pointer j) a.rws.oneCell rfl _ f a.dict);rw [Zb2] at d;have c:=hid i;obtain ⟨q,s,rfl,_⟩:=a.docs.shape;obtain ⟨n,m,rfl,_⟩:=a.rws.shape;have f0:=ZsP (.slice q l.length s) (.pointer k) (.slice n (Zn (Zt l)).length m) (.pointer j) (.int .i64 0) (.int .i64 0) (.int .i64 (Zp l).1) (.int .i64 (Zp l).2.1) (.int .i64 (Zp l).2.2.1) (.int .i64 (Zp l).2.2.2.1) (.int .i64 ((Zp l).2.2.2.2:Int)) f;clear a i g;go_wp2_with fail;refine d.out.mono ?_;rintro e w2 ⟨rfl,b⟩;have o:=hid (c.out.trans (b.mono c.out.size));clear b d c;go_wp2_with fail;go_ret;exact ⟨rfl,o.out⟩
theorem ZyB (p:Option Addr) (l:List Zo) (w:World) (h:Zf1 (fun _=>True) w p l):Calls prog 29 #[.pointer p] w fun e w'=>e=.returned (.agg #[.int .i64 0,.int .i64 0,.int .i64 (Zp l).1,.int .i64 (Zp l).2.1,.int .i64 (Zp l).2.2.1,.int .i64 (Zp l).2.2.2.1,.int .i64 ((Zp l).2.2.2.2:Int)])/\Below w.heap.size w w':=by
 obtain ⟨t,a⟩:=Xn (w.alloc (.cells #[.int .i64 0,.int .i64 0,.int .i64 0,.int .i64 0,.int .i64 0,.int .i64 0,.int .i64 0] 65));have i:Below w.heap.size w t:=by rw [<- a];exact (Below.refl _ _).alloc (Xc _) _
 have y:t.heap[w.heap.size]? = some (.cells #[.int .i64 0,.int .i64 0,.int .i64 0,.int .i64 0,.int .i64 0,.int .i64 0,.int .i64 0] 65 (0,0)):=by rw [<- a];exact heap_alloc_new _ _
 have D:=hid (ZdE p l t (h.below i));have c:=hid i;have H:=hid y;have u:=hid a;have n:w.heap.size<t.heap.size:=(Xo.1 y).1;have d:=hid n;clear h i y a n;go_enter func29,ntmps29;go_wp2_with (rw [u.out])
 refine D.out.mono ?_;rintro e E ⟨ev,M,rv,T,rfl,x,s⟩;have F:=hid (fun W=>Zzm (Zp l).1 (Zp l).2.1 (Zp l).2.2.1 (Zp l).2.2.2.1 ((Zp l).2.2.2.2:Int) W);obtain ⟨I,N,rfl,_⟩:=x.docs.shape;obtain ⟨J,R,rfl,_⟩:=x.rws.shape;have f0:=ZCA (.slice I l.length N) (.pointer M) (.slice J (Zn (Zt l)).length R) (.pointer T) (.int .i64 0) (.int .i64 0) (.int .i64 (Zp l).1) (.int .i64 (Zp l).2.1) (.int .i64 (Zp l).2.2.1) (.int .i64 (Zp l).2.2.2.1) (.int .i64 ((Zp l).2.2.2.2:Int)) E;have k:=hid (c.out.trans (s.mono c.out.size));have q:=hid ((s.block _ d.out).trans H.out);have b:Hid (w.heap.size<E.heap.size):=hid (XK d.out s.size);clear x s D c H d;go_wp2_with fail;refine (F.out _).mono ?_;rintro e L ⟨rfl,j⟩;obtain ⟨X,o⟩:∃X:Array Value,#[.int .i64 0,.int .i64 0,.int .i64 (Zp l).1,.int .i64 (Zp l).2.1,.int .i64 (Zp l).2.2.1,.int .i64 (Zp l).2.2.2.1,.int .i64 ((Zp l).2.2.2.2:Int)]=X:=⟨_,rfl⟩;have f:X.size=7:=by rw [<- o];rfl
 have r:X.all (·.oneCell')=true:=by rw [<- o];simp [Value.oneCell']
 have m:=(j.block _ b.out).trans q.out;have hi:(prog.info? 65).map (·.size)=some X.size:=by rw [f];exact Zmr
 have z:=hid (setRow_heap L w.heap.size _ X _ _ m);have A:=hid (ZhI (g:=w.heap.size) X (k.out.trans (j.mono k.out.size)) (Xc _));have G:=hid hi;have C:Hid ((#[.int .i64 0,.int .i64 0,.int .i64 0,.int .i64 0,.int .i64 0,.int .i64 0,.int .i64 0]:Array Value).size=X.size):=hid (by rw [f];rfl);have B:=hid r;have S:=hid m;have O:=hid o;clear j m hi f r q b k F;rw [o];clear o;go_wp2_with (go_loud (refine wpList_store_row rfl 65 (.tmp 2) (.tmp 6) rfl w.heap.size X rfl rfl 65 #[.int .i64 0,.int .i64 0,.int .i64 0,.int .i64 0,.int .i64 0,.int .i64 0,.int .i64 0] S.out G.out C.out B.out ?_))
 refine bodyPost_ret (v:=.agg X) (results_cell_row rfl _ _ w.heap.size 65 X (0,0) _ rfl z.out underlying65 rfl G.out) rfl ⟨by rw [O.out],A.out⟩
open EV (ZA Z8 Zgd Zch)
open GM
theorem ZA7 (a b c d e f g:Value) (w:World):(Instr.field 65 (.agg #[a,b,c,d,e,f,g]) 2).run prog w=.ok c w:=by kernel_rfl
theorem Zjj (v:Value) (l:List SM.Zo) (w:World) (n:Zq w v (Zbg l)) (c:SM.isS l=true) (a:ZbA l) (q:SM.ZaH l) (b:l≠[]):Calls prog 12 #[v] w fun e w'=>∃g,e=.returned (.tuple #[.pointer (some ⟨g,0,none⟩),.int .i64 0])/\Zf1 (fun k=>w.heap.size<=k) w' (some ⟨g,0,none⟩) l/\Below w.heap.size w w':=by
 have o:ZcD (Zbg l)=some l:=Zp4 q (ZCd c a b);refine (Zji v (Zbg l) w n (Zk5 c a)).mono ?_;rintro e w' ⟨p,rfl,d,_,i⟩;rw [o] at d ⊢;rcases d with ⟨_,h⟩|⟨g,j,f,m,r,rfl,h⟩
 ·exact absurd h b
 ·exact ⟨g,rfl,.inr ⟨g,j,f,m,r,rfl,h⟩,i⟩
theorem Znz (w:World):Calls prog 16 #[] w fun e w'=>e=.returned (.bool true)/\Below w.heap.size w w':=by
 obtain ⟨T,l⟩:=Xn (w.alloc (.cells #[.string ⟨#[109,115,103]⟩,.string ⟨#[120]⟩] 123));have an:Below w.heap.size w T:=by rw [<- l];exact (Below.refl _ _).alloc (Xc _) _
 have ak:T.heap.size=w.heap.size+1:=by rw [<- l];simp
 have ae:ZN Z8 T (.slice (some ⟨w.heap.size,0,none⟩) 1 1) [([109,115,103],[120])]:=by
  rw [<- l];exact ZD.any (Zju (e:=123) (S:=fun _=>True) w [[.string ⟨#[109,115,103]⟩,.string ⟨#[120]⟩]] [([109,115,103],[120])] (by unfold maxLen;simp) (Zbs.single (Zgd.2 rfl)))
 obtain ⟨w0,p⟩:=Xn (T.alloc (.cells #[.int .i64 1,.int .i64 7,.slice (some ⟨w.heap.size,0,none⟩) 1 1] 59));have al:Below w.heap.size w w0:=by rw [<- p];exact an.alloc (by omega) _
 have a:ZN ZA w0 (.slice (some ⟨T.heap.size,0,none⟩) 1 1) exA:=by
  rw [<- p];exact ZD.any (Zju (e:=59) (S:=fun _=>True) T [[.int .i64 1,.int .i64 7,.slice (some ⟨w.heap.size,0,none⟩) 1 1]] exA (by unfold maxLen;simp [exA]) (Zbs.single (Zch.2 ⟨_,rfl,ae⟩)))
 have u:=hid (ZeN _ exA w0 a Zr2 ZjX Ztm (by unfold exA;simp));have C:=hid al;have ah:=hid l;have am:=hid p;have av:=hid ak;clear l an ae p al a ak;go_enter func16,ntmps16;go_wp2_with (first|(rw [am.out])|(rw [ah.out]))
 refine u.out.mono ?_;rintro e w1 ⟨v1,rfl,D,ab⟩;have HO:=hid (Zjj v1 exA w1 (Zd.brow D) Zr2 ZjX Ztm (by unfold exA;simp));have y:=hid (C.out.trans (ab.mono C.out.size));obtain ⟨p1,c1,rfl,_⟩:=(Zd.brow D).shape;clear D ab u C ah am av;go_wp2_with fail;refine HO.out.mono ?_;rintro e Z ⟨g,rfl,r,af⟩;have r:=r.any;have I:=hid (y.out.trans (af.mono y.out.size));obtain ⟨w3,n⟩:=Xn (Z.alloc (.cells #[.int .i64 4,.int .i64 0,.slice none 0 0] 59));have N:Below Z.heap.size Z w3:=by rw [<- n];exact (Below.refl _ _).alloc (Xc _) _
 have a:ZN ZA w3 (.slice (some ⟨Z.heap.size,0,none⟩) 1 1) exC:=by
  rw [<- n];exact ZD.any (Zju (e:=59) (S:=fun _=>True) Z [[.int .i64 4,.int .i64 0,.slice none 0 0]] exC (by unfold maxLen;simp [exC]) (Zbs.single (Zch.2 ⟨_,rfl,ZD.nil_ _ _⟩)))
 have u:=hid (ZeN _ exC w3 a Zxq ZnT Ztn (by unfold exC;simp));have U:=hid (r.below N);have B:=hid (I.out.trans (N.mono I.out.size));have ad:=hid n;clear r af n N a HO y I;go_wp2_with (rw [ad.out])
 refine u.out.mono ?_;rintro e w4 ⟨v4,rfl,x,E⟩;have HO:=hid (Zjj v4 exC w4 (Zd.brow x) Zxq ZnT Ztn (by unfold exC;simp));have v:=hid (B.out.trans (E.mono B.out.size));have ar:=hid (U.out.below E);obtain ⟨p4,c4,rfl,_⟩:=(Zd.brow x).shape;clear x E u B ad U;go_wp2_with fail;refine HO.out.mono ?_;rintro e w5 ⟨g',rfl,aq,R⟩;have Y:=hid aq.any;have G:=hid (ar.out.below R);have F:=hid (v.out.trans (R.mono v.out.size));have HP:=hid (Zsz (some ⟨g,0,none⟩) exA [109,115,103,58,120] w5 G.out Zr2 ZjX);rw [Zux] at HP;clear aq R HO ar v;go_wp2_with fail;refine HP.out.mono ?_;rintro e w6 ⟨v6,rfl,L,m⟩;have W:=hid (G.out.below m);have X:=hid (Y.out.below m);have O:=hid (F.out.trans (m.mono F.out.size));have V:=hid L;obtain ⟨p6,c6,rfl,_⟩:=PW.POn.shape L;have u:=hid (Zti (.slice none 0 0) [] w6 (ZD.nil_ _ _) (.inr rfl));clear L m HP G Y F;go_wp2_with fail;refine u.out.mono ?_;rintro e w7 ⟨v7,rfl,ag,d⟩;have J:=hid (W.out.below d);have ap:=hid (X.out.below d);have M:=hid (O.out.trans (d.mono O.out.size));have aj:=PW.Zbp.below V.out d;obtain ⟨b7,o7,x7,rfl,_,_,c0,_,_⟩:=PW.POn.at_ aj (k:=0) (by simp);rw [Nat.zero_mul,Xah] at c0;have c0:w7.cell? ⟨b7,o7,none⟩=some (.int .i64 0):=c0;obtain ⟨p7,c7,rfl,_⟩:=(Zd.brow ag).shape;have b:=hid (ZyB (some ⟨g,0,none⟩) exA w7 J.out);rw [Zxp] at b;dsimp only at b;clear ag d aj u W X O V;go_wp2_with fail;refine b.out.mono ?_;rintro e w8 ⟨rfl,q⟩;have z:=hid (J.out.below q);have ao:=hid (ap.out.below q);have H:=hid (M.out.trans (q.mono M.out.size));have f2:=ZA7 (.int .i64 0) (.int .i64 0) (.int .i64 7) (.int .i64 7) (.int .i64 1) (.int .i64 1) (.int .i64 1) w8;have b:=hid (Zlf (some ⟨g,0,none⟩) exA w8 z.out);clear q c0 J ap M;go_wp2_with fail;refine b.out.mono ?_;rintro e w9 ⟨rfl,o⟩;have ac:=hid (z.out.below o);have aa:=hid (ao.out.below o);have A:=hid (H.out.trans (o.mono H.out.size));have b:=hid (ZqE (some ⟨g,0,none⟩) exA [109,115,103,58,120] w9 ac.out (fun _=>by simp));rw [ZAr] at b;have au:(exA.length:Int)=1:=rfl;rw [au];clear o f2 z ao H;go_wp2_with fail;refine b.out.mono ?_;rintro e ax ⟨rfl,c⟩;have i:=hid (aa.out.below c);have h:=hid (A.out.trans (c.mono A.out.size));have b:=hid (ZsY (some ⟨g',0,none⟩) exC ax i.out);rw [Zxr] at b;clear c ac aa A;go_wp2_with fail;refine b.out.mono ?_;rintro e aw ⟨rfl,f⟩;have t:=hid (i.out.below f);have j:=hid (h.out.trans (f.mono h.out.size));have b:=hid (ZqE (some ⟨g',0,none⟩) exC [109,115,103,58,120] aw t.out (fun _=>by simp));rw [ZAs] at b;clear f i h;go_wp2_with fail;refine b.out.mono ?_;rintro e ay ⟨rfl,s⟩;have ai:=hid (j.out.trans (s.mono j.out.size));clear s t j b;go_wp2_with fail;go_ret;exact ⟨rfl,ai.out⟩
theorem Zf5 {a w b:World} (h:Below a.heap.size a w) (k:Below w.heap.size w b):Below a.heap.size a b:=h.trans (k.mono h.size)
def ZjF (w:World) (e:Ending) (w':World):Prop:=e=.returned (.bool true)/\Below w.heap.size w w'
open EV (ZA Z8 ZgA)
open SM (Zo isS Zbx Zfy ZaH)
theorem ZBH {l:List Zo} (h:isS l=true):Zz4 l:=fun d a=>by
 obtain ⟨k,b,rfl⟩:=List.mem_iff_getElem.1 a;have:=(EM.ZaL.1 (Zfy h b).2.2).1;have h2:l[k].2.2.length<=16:=this;omega
theorem Zw3 {b:Xu} {r:List Zo} (h:ZcD b=some r) (d:b.length<=100000):isS r=true/\r≠[]/\ZbA r/\ZaH r/\Zbg r=b:=by
 obtain ⟨g,f⟩:=ZhL h;obtain ⟨e,a,_,_,_,c⟩:=Ze9 g;exact ⟨e,a,fun _=>Xx (Zfn (Zlo h)) d,f,c.symm⟩
open SM (Zo isS ZaH Zek Zcv)
open FM (ZaP ZgK Zg7 Zbl)
open GM (ZbA Zdw ZeL ZcD)
def Zwq (r:Xu×Int) (w:World) (e:Ending) (w':World):Prop:=∃u,e=.returned (.tuple #[u,.int .i64 r.2])/\Zd w.heap.size w' u r.1/\Below w.heap.size w w'
def Zlw:Prop:=∀(v:Value) (l:List Zo) (w:World),ZN ZA w v l->ZbA l->ZaH l->Calls prog 11 #[v] w (Zwq (Zdw l) w)
def ZiL (o:Option (List Zo)) (w:World) (e:Ending) (w':World):Prop:=∃u,e=.returned (.tuple #[u,.int .i64 (if o.isSome then 0 else 130)])/\ZN ZA w' u (o.getD [])/\Below w.heap.size w w'
theorem Zel {b:Xu} {w w':World} (h:ZcD b=none) (a:Below w.heap.size w w'):ZiL (ZcD b) w (.returned (.tuple #[.slice none 0 0,.int .i64 130])) w':=by
 rw [h];exact ⟨_,rfl,ZD.nil_ _ _,a⟩
theorem Zvu (O:Zlw) (v:Value) (b:Xu) (w:World) (hr:Zq w v b) (hl:b.length<=100000):Calls prog 13 #[v] w (ZiL (ZcD b) w):=by
 obtain ⟨p,am,rfl,ak,ad⟩:=hr.shape;unfold maxLen at ad
 by_cases h4:b.length<4
 ·have hd:ZcD b=none:=by unfold ZcD;rw [Xe h4]
  have t1:decide ((b.length:Int)<4)=true:=Xt;have g:=hid (Zel hd (Below.refl _ w));clear hr hd;go_enter func13,ntmps13;go_wp2_with fail;go_ret2;exact g.out
 ·have t1:decide ((b.length:Int)<4)=false:=Xf;have t2:decide ((4:Int)<=(b.length:Int))=true:=Xt;obtain ⟨pg,po,rfl,_,_⟩:=Z3.at_ hr (k:=0) (by omega);have af:=BOn.drop2 (BOn.of_in (show Z3 w.heap.size w _ b from hr) (Xc _)) 4 (by omega);have Z:=hid (fun u (h:Z3 w.heap.size w u (b.drop 4))=>FG.ZBq w.heap.size u (b.drop 4) w h (Xc _));have HR:=hid hr;have ao:=hid af.1;have an:=hid af.2;have aq:=hid h4;clear hr af;obtain ⟨G,hG⟩:=Xn (ZaP (b.drop 4));have Y:=Zg7 (b.drop 4);rw [hG] at Z Y;obtain ⟨F,k,e0⟩:=G;dsimp only at Z
  have aj:F.length<=100000:=by
   rcases Y with ⟨p,q,h⟩|h|h
   ·have hb:=(FM.ZhN (hG.trans h));rw [(X7 h).1];have h3:=Xp List.length hb.2.2;have h5:=(FM.Zbu p).1;rw [Xd,Xj,Xj] at h3;omega
   ·rw [(X7 h).1];simp
   ·rw [(X7 h).1];simp
  have al:=hid aj
  have aa:∀o,Zek F=o->e0=0->ZcD b=(match o with|none=>none|some l=>if Zdw l=(b,0) then some l else none):=fun o H he=>by
   unfold ZcD;rw [Xa h4,hG];dsimp only;rw [Xa (by rw [he];simp),H];cases o<;>rfl
  have ab:e0≠0->ZcD b=none:=fun he=>by
   unfold ZcD;rw [Xa h4,hG,Xe he]
  have I:=hid aa;have s:=hid ab
  have ah:e0=0\/e0=41\/e0=40:=by
   rcases Y with ⟨p,q,h⟩|h|h
   ·exact .inl (X7 (X7 h).2).2
   ·exact .inr (.inl (X7 (X7 h).2).2)
   ·exact .inr (.inr (X7 (X7 h).2).2)
  clear Y hG aj aa ab
  by_cases ai:am=4
  ·subst ai;clear ak ad;go_enter func13,ntmps13;go_wp2_with fail;refine (Z.out _ (by exact BOn.bin (ao.out (by trivial)) (fun _ h=>h))).mono ?_;rintro e w1 ⟨vp,vr,rfl,M,X,L⟩;have t:=hid L;have n:=hid (Zq.below HR.out L);have U:=hid (ST.Zq2 vp F w1 M);obtain ⟨p1,c1,rfl,_⟩:=M.shape;obtain ⟨p2,c2,rfl,_⟩:=X.shape;clear M X L;rcases ah with rfl|rfl|rfl
   rotate_left 1
   ·have g:=hid (Zel (s.out (by decide)) t.out);clear U I s n;go_wp2_with fail;go_ret2;exact g.out
   ·have g:=hid (Zel (s.out (by decide)) t.out);clear U I s n;go_wp2_with fail;go_ret2;exact g.out
   ·have d:=hid (fun o h=>I.out o h rfl);clear I s;go_wp2_with fail;refine U.out.mono ?_;rintro e w2 ⟨ud,S,rfl,a,_,A⟩;have j:=hid (show Below w.heap.size w w2 from t.out.trans (A.mono t.out.size));have B:=hid (Zq.below n.out A);cases H:Zek F with
    | none =>
      rw [H] at a;have g:=hid (Zel (d.out none H) j.out);obtain ⟨p3,c3,rfl,_⟩:=a.any.shape;clear a A U d n B H;go_wp2_with fail;go_ret2;exact g.out
    | some l =>
      rw [H] at a;have a:Zz ZA _ _ S w2 ud l:=a;obtain ⟨hS,E,hby⟩:=Zcv H;have N:ZbA l:=fun _=>by rw [hby];exact al.out
      have c:=d.out (some l) H;dsimp only at c;have HE:=hid (O ud l w2 a.any N E);have ac:=hid a.any;have i:=hid c;obtain ⟨p3,c3,rfl,_⟩:=a.any.shape;clear a A U d n H hS E hby N c;go_wp2_with fail;refine HE.out.mono ?_;rintro e w3 ⟨ue,rfl,f,m⟩;have T:=hid (show Below w.heap.size w w3 from j.out.trans (m.mono j.out.size));have h1:=Z3.conv (Zd.brow f);have h2:=Z3.conv (Zq.below B.out m);have R:=hid (ac.out.below m);have y:=ZeL l;obtain ⟨⟨x,z⟩,C⟩:∃r,Zdw l=r:=⟨_,rfl⟩;rw [C] at f y h1 i ⊢;dsimp only at f h1 ⊢;obtain ⟨p4,c4,rfl,_⟩:=(Zd.brow f).shape;have V:=hid C
      by_cases D:z=0/\x=b
      ·obtain ⟨rfl,rfl⟩:=D;have c:=i.out;rw [Xe rfl] at c;have g:Hid (ZiL (ZcD x) w (.returned (.tuple #[.slice p3 l.length c3,.int .i64 0])) w3):=hid (by rw [c];exact ⟨_,rfl,R.out,T.out⟩);clear f m y c i HE B j V C;go_wp2_with fail;go_ret2;exact g.out
      ·have W:ZcD b=none:=by
        have:=i.out;rw [Xa (fun h=>D ⟨(X7 h).2,(X7 h).1⟩)] at this;exact this
       have g:=hid (Zel W T.out)
       have hz:z=130\/z=2\/(z=0/\x≠b):=by
        rcases y with h|h|h
        ·exact .inl (X7 h).2
        ·exact .inr (.inl (X7 h).2)
        ·exact .inr (.inr ⟨(X7 h).2,fun e=>D ⟨(X7 h).2,e⟩⟩)
       have ae:=Zb5 x b;clear f m y W i HE B j V C D;rcases hz with rfl|rfl|⟨rfl,J⟩
       ·go_wp2_with fail;go_ret2;exact g.out
       ·go_wp2_with fail;go_ret2;exact g.out
       ·rw [XB J] at ae;have ag:(x == b)=false:=by rw [Xab];exact J
        clear J;go_wp2_with fail;go_ret2;exact g.out
  ·have ap:=hid ai;clear ak ad;go_enter func13,ntmps13;go_wp2_with fail;refine (Z.out _ (by exact BOn.bin (an.out ap.out) (fun _ h=>h))).mono ?_;rintro e w1 ⟨vp,vr,rfl,M,X,L⟩;have t:=hid L;have n:=hid (Zq.below HR.out L);have U:=hid (ST.Zq2 vp F w1 M);obtain ⟨p1,c1,rfl,_⟩:=M.shape;obtain ⟨p2,c2,rfl,_⟩:=X.shape;clear M X L;rcases ah with rfl|rfl|rfl
   rotate_left 1
   ·have g:=hid (Zel (s.out (by decide)) t.out);clear U I s n;go_wp2_with fail;go_ret2;exact g.out
   ·have g:=hid (Zel (s.out (by decide)) t.out);clear U I s n;go_wp2_with fail;go_ret2;exact g.out
   ·have d:=hid (fun o h=>I.out o h rfl);clear I s;go_wp2_with fail;refine U.out.mono ?_;rintro e w2 ⟨ud,S,rfl,a,_,A⟩;have j:=hid (show Below w.heap.size w w2 from t.out.trans (A.mono t.out.size));have B:=hid (Zq.below n.out A);cases H:Zek F with
    | none =>
      rw [H] at a;have g:=hid (Zel (d.out none H) j.out);obtain ⟨p3,c3,rfl,_⟩:=a.any.shape;clear a A U d n B H;go_wp2_with fail;go_ret2;exact g.out
    | some l =>
      rw [H] at a;have a:Zz ZA _ _ S w2 ud l:=a;obtain ⟨hS,E,hby⟩:=Zcv H;have N:ZbA l:=fun _=>by rw [hby];exact al.out
      have c:=d.out (some l) H;dsimp only at c;have HE:=hid (O ud l w2 a.any N E);have ac:=hid a.any;have i:=hid c;obtain ⟨p3,c3,rfl,_⟩:=a.any.shape;clear a A U d n H hS E hby N c;go_wp2_with fail;refine HE.out.mono ?_;rintro e w3 ⟨ue,rfl,f,m⟩;have T:=hid (show Below w.heap.size w w3 from j.out.trans (m.mono j.out.size));have h1:=Z3.conv (Zd.brow f);have h2:=Z3.conv (Zq.below B.out m);have R:=hid (ac.out.below m);have y:=ZeL l;obtain ⟨⟨x,z⟩,C⟩:∃r,Zdw l=r:=⟨_,rfl⟩;rw [C] at f y h1 i ⊢;dsimp only at f h1 ⊢;obtain ⟨p4,c4,rfl,_⟩:=(Zd.brow f).shape;have V:=hid C
      by_cases D:z=0/\x=b
      ·obtain ⟨rfl,rfl⟩:=D;have c:=i.out;rw [Xe rfl] at c;have g:Hid (ZiL (ZcD x) w (.returned (.tuple #[.slice p3 l.length c3,.int .i64 0])) w3):=hid (by rw [c];exact ⟨_,rfl,R.out,T.out⟩);clear f m y c i HE B j V C;go_wp2_with fail;go_ret2;exact g.out
      ·have W:ZcD b=none:=by
        have:=i.out;rw [Xa (fun h=>D ⟨(X7 h).2,(X7 h).1⟩)] at this;exact this
       have g:=hid (Zel W T.out)
       have hz:z=130\/z=2\/(z=0/\x≠b):=by
        rcases y with h|h|h
        ·exact .inl (X7 h).2
        ·exact .inr (.inl (X7 h).2)
        ·exact .inr (.inr ⟨(X7 h).2,fun e=>D ⟨(X7 h).2,e⟩⟩)
       have ae:=Zb5 x b;clear f m y W i HE B j V C D;rcases hz with rfl|rfl|⟨rfl,J⟩
       ·go_wp2_with fail;go_ret2;exact g.out
       ·go_wp2_with fail;go_ret2;exact g.out
       ·rw [XB J] at ae;have ag:(x == b)=false:=by rw [Xab];exact J
        clear J;go_wp2_with fail;go_ret2;exact g.out
open SM (Zo isS Zbx ZaH)
theorem ZrK (O:Zlw) (u v:Value) (l:List Zo) (b:Xu) (w:World) (hu:ZN ZA w u l) (hv:Zq w v b) (hf:ZaH l):Calls prog 3 #[u,v] w (ZjF w):=by
 have R:=hid (ZAu u l w hu);have HV:=hid hv;have F:=hid (Zxu hf);have E:=hid (Zr4 l);obtain ⟨pu,cu,rfl,_⟩:=hu.shape;obtain ⟨pv,cv,rfl,_⟩:=hv.shape;obtain ⟨L,hL⟩:=Xn (ZfK l);rw [hL] at R F E;have HO:=hid O;clear hu hv hf hL O;go_enter func3,ntmps3;go_wp2_with fail;refine R.out.mono ?_;rintro e w1 ⟨u1,rfl,G,n⟩;have B:=hid G.any;have Y:=hid n;have HC:=hid (ZAf w1.heap.size _ b w1 (Z3.mono (Z3.below HV.out n) n.size));obtain ⟨p1,c1,rfl,_⟩:=G.any.shape;clear G n R HV;go_wp2_with fail;refine HC.out.mono ?_;rintro e w2 ⟨⟨u2,rfl,o⟩,rfl⟩;obtain ⟨C,hC⟩:=Xn (b.take 9000);have H:Hid (C.length<=9000):=hid (by rw [<- hC,Xi];omega);rw [hC] at o;have ah:=hid o;have HE:=hid (Zem _ L w1 B.out E.out F.out);obtain ⟨p2,c2,rfl,_⟩:=o.shape;obtain ⟨⟨x,z⟩,J⟩:∃r,Zdw L=r:=⟨_,rfl⟩;rw [J] at HE;have ar:=hid J;clear o hC HC J;go_wp2_with fail;refine HE.out.mono ?_;rintro e w3 ⟨v3,rfl,y,t⟩;dsimp only at y ⊢;have ad:=hid (Zf5 Y.out t);have am:=hid (Zq.below (show Zq w1 _ C from ah.out) t);have ae:=hid (Zd.brow y);have N:=hid (HO.out _ L w3 (B.out.below t) E.out F.out);rw [ar.out] at N;obtain ⟨p3,c3,rfl,_⟩:=(Zd.brow y).shape;clear y t HE Y ah B;go_wp2_with fail;refine N.out.mono ?_;rintro e w4 ⟨v4,rfl,m,p⟩;dsimp only at m ⊢;have X:=hid (Zf5 ad.out p);have A:=hid (Zq.below am.out p);have af:=hid (Zq.below ae.out p);have aj:=hid (Zd.brow m);have Z:=hid (Zji _ C w4 A.out (Zk6 (by have:=H.out;omega)));obtain ⟨p4,c4,rfl,_⟩:=(Zd.brow m).shape;clear m p N ad am ae;go_wp2_with fail;refine Z.out.mono ?_;rintro e w5 ⟨p5,rfl,an,ac,j⟩;have q:=hid (Zf5 X.out j);have I:=hid (Zq.below A.out j);have k:=hid (Zq.below af.out j);have s:=hid (Zq.below aj.out j);have c:=hid an.any;have M:=hid ac;have T:=hid (Zvu HO.out _ C w5 I.out (by have:=H.out;omega));clear an ac j Z X A af aj;have aq:=Zb5 x x;rw [Xw rfl] at aq;have au:(x == x)=true:=by rw [Xan]
 cases hd:ZcD C with
 | none =>
   rw [hd] at T c;obtain rfl:=M.out hd;clear M c hd HO;go_wp2_with fail;refine T.out.mono ?_;rintro e w6 ⟨u6,rfl,d,a⟩;have h1:=Z3.conv (Zq.below k.out a);have h2:=Z3.conv (Zq.below s.out a);have HA:=hid (Znz w6);have i:=hid (Zf5 q.out a);obtain ⟨p6,c6,rfl,_⟩:=d.shape;clear d a T q I k s;go_wp2_with fail;refine HA.out.mono ?_;rintro e w7 ⟨rfl,f⟩;have HQ:=hid (Zf5 i.out f);clear f HA i h1 h2;go_wp2_with fail;go_ret;exact ⟨rfl,HQ.out⟩
 | some r =>
   obtain ⟨hS,ai,ao,aa,hby⟩:=Zw3 hd (by have:=H.out;omega);rw [hd] at T c
   obtain ⟨g,hg⟩:∃g,p5=some ⟨g,0,none⟩:=by
    rcases c.out with ⟨_,h⟩|⟨g,_,_,_,_,h,_⟩
    ·exact absurd h ai
    ·exact ⟨g,h⟩
   subst hg;have HW:=hid (ZBH hS);have ap:=hid (Zbx.1 hS).1;have c:=hid (show Zf1 (fun _=>True) w5 (some ⟨g,0,none⟩) r from c.out);clear M hd HO hS ai ao aa hby;go_wp2_with fail;refine T.out.mono ?_;rintro e w6 ⟨u6,rfl,d,a⟩;have d:ZN ZA w6 u6 r:=d;have h1:=Z3.conv (Zq.below k.out a);have h2:=Z3.conv (Zq.below s.out a);have i:=hid (Zf5 q.out a);have W:=hid d;have U:=hid (Zl3 _ r w6 (c.out.below a) HW.out ap.out);obtain ⟨p6,c6,rfl,_⟩:=d.shape;clear d a T q I k s c;go_wp2_with fail;refine U.out.mono ?_;rintro e w7 ⟨⟨u7,rfl,D⟩,f⟩;have S:=ZgA u7 _ r r w7 D (W.out.below f);rw [Xw rfl] at S;have V:=hid S;have ak:=hid (Zf5 i.out f);obtain ⟨p7,c7,rfl,_⟩:=D.shape;clear D f S U i W h1 h2;go_wp2_with fail;refine V.out.mono ?_;rintro e w8 ⟨rfl,al⟩;have ag:=hid (Zf5 ak.out al);have HA:=hid (Znz w8);clear al V ak;go_wp2_with fail;refine HA.out.mono ?_;rintro e w9 ⟨rfl,ab⟩;have HQ:=hid (Zf5 ag.out ab);clear ab HA ag;go_wp2_with fail;go_ret;exact ⟨rfl,HQ.out⟩
