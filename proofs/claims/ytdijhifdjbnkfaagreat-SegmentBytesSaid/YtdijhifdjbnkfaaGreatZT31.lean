import Derived.Test.YtdijhifdjbnkfaaGreatZT20
import Derived.Test.YtdijhifdjbnkfaaGreatZT8
import Derived.Deep.AppendLies
set_option maxRecDepth 100000
set_option maxHeartbeats 0
set_option linter.unusedVariables false
set_option linter.unusedSimpArgs false
namespace Go.Proofs.YtdijhifdjbnkfaaGreat
open Lib (hid)
open Tryz
namespace PW
open RowKit MM PM VM
variable {b c w w':World} {u v:Value} {l:Xu} {B k:Nat} {qs:List Int}
def Grown (w w':World) (v v':Value):Prop:=w.grownBy w' v.ownBlock/\∀k,v'.ownBlock=some k->v.ownBlock=some k\/w.heap.size<=k
theorem grownBy_refl (w:World) (r:Option Nat):w.grownBy w r:=⟨rfl,rfl,rfl,Xc _,fun _ _ _=>rfl⟩
theorem Grown.refl (w:World) (v:Value):Grown w w v v:=⟨grownBy_refl _ _,fun k h=>.inl h⟩
theorem Grown.trans {a:World} {x:Value} (h:Grown a b u v) (k:Grown b c v x):Grown a c u x:=by
 obtain ⟨d,j⟩:=h;obtain ⟨f,m⟩:=k;refine ⟨⟨f.os.trans d.os,f.tape.trans d.tape,f.output.trans d.output,Xx d.size f.size,fun i hi g => ?_⟩,fun i hi => ?_⟩
 ·rw [f.block i (XK hi d.size) (fun e => ?_),d.block i hi g];rcases j i e.symm with h|h
  ·exact g h.symm
  ·omega
 ·rcases m i hi with h|h
  ·exact j i h
  ·exact .inr (Xx d.size h)
theorem Grown.kep {v':Value} (h:Grown w w' v v'):Kep (fun b=>v.ownBlock≠some b) w w':=ZM h.1 fun k d a=>a d
theorem Grown.of_below {a:World} (h:Below a.heap.size a b) (k:Grown b c u v) (hu:∀i,u.ownBlock=some i->i<a.heap.size):Grown a c u v :=
 ⟨⟨k.1.os.trans h.os,k.1.tape.trans h.tape,k.1.output.trans h.output,Xx h.size k.1.size,fun i hi d=>by rw [k.1.block i (XK hi h.size) d,h.block i hi]⟩,fun i hi=>by
   rcases k.2 i hi with e|e
   ·exact .inl e
   ·exact .inr (Xx h.size e)⟩
theorem Zaw (h:Zd B w v l):∀i,v.ownBlock=some i->i<w.heap.size:=fun i hi=>(World.ownsRow.lt h i hi).2
theorem Zd.zero (h:Zd B w v l):Zd 0 w v l:=Zd.weaken h (XU _)
theorem Zd.from (h:Zd 0 w v l) (i:∀k,v.ownBlock=some k->B<=k):Zd B w v l:=by
 refine ⟨h.1,?_⟩;rcases h.2 with f|⟨g,d,a,e,hg,rest⟩
 ·exact .inl f
 ·exact .inr ⟨g,d,a,e,i g (by rw [e];rfl),rest⟩
theorem Zd.kepOwn {S:Nat->Prop} (h:Zd B w v l) (n:Kep S w w') (m:∀k,v.ownBlock=some k->S k):Zd B w' v l:=by
 refine ⟨h.1,?_⟩;rcases h.2 with j|⟨g,d,a,f,i,e,rest⟩
 ·exact .inl j
 ·exact .inr ⟨g,d,a,f,i,by rw [n.block g (Xo.1 e).1 (m g (by rw [f];rfl))];exact e,rest⟩
def Zlp (l:Xu) (v:Value) (w:World) (e:Ending) (w':World):Prop:=∃v',e=.returned v'/\Zd 0 w' v' l/\Grown w w' v v'
theorem Zl {ops:Array Oper} {rest:List Oper} {o:Oper} {a:Act} {Q:Exit->Act->World->Prop} (t:o.guard=none) (s x:Operand)
  (F:o.op=.call { callee:=.builtin .append,args:=#[s,x],argTypes:=#[23,23] }) (v:Value) (l:Xu) (hs:a.eval s=v) (i:Zd 0 w v l)
  (src:Value) (m:Xu) (G:a.eval x=src) (D:Zq w src m) (H:m≠[]) (A:l.length+m.length<=140737488355328)
  (h:∀v' w',Zd 0 w' v' (l++m)->Grown w w' v v'->wpList prog ops Q rest (a.put o.dst v') w'):wpList prog ops Q (o::rest) a w:=by
 obtain ⟨i0,hi,r,q,n⟩:=info_parts ZaJ;have h0:=Xac.2 H;obtain ⟨p,z,rfl,_,_,h3,f⟩:=D;rcases f with f|⟨b,off,rfl,_,f⟩
 ·have:=Zi m;rw [f] at this;simp at this;omega
 ·refine wpList_append_lies w t s x 23 F 0 5 i0 (.int .u8 0) 1 1 underlying23 hi r q n rfl (by decide) v l.length (Lib.byteCells l) hs i ⟨b,off,none⟩ (Lib.byteCells m).length z (Lib.byteCells m) G (by simp)
   (fun j u E=>by rw [ZY];exact f j u E) (byteCells_one m) (by rw [Zi];omega) (by rw [Zi];unfold maxLen;omega) (by rw [Zi];omega) (XU _) w.heap.size rfl ?_
  intro g cap' w' d e y _;refine h _ w' ?_ ⟨e,fun k C => ?_⟩
  ·unfold Zd;rw [Xd,byteCells_append];rw [Zi] at d ⊢;exact d
  ·simp only [Value.ownBlock,Xv] at C;subst C;rcases y with h|h
   ·exact .inl h
   ·exact .inr (Nat.le_of_eq h.symm)
theorem Zaz (n:Nat):Zb n≠[]:=by
 intro h;have:=(Zc n).1;rw [h] at this;simp at this
theorem Za4 (v:Value) (l:Xu) (n:Int) (w:World) (G:0<=n) (h1:n<=9223372036854775807) (d:Zd 0 w v l) (C:l.length<=1000000000000) :
  Calls prog 191 #[v,.int .i64 n] w (Zlp (l++Zb n.toNat) v w):=by
 obtain ⟨m,rfl⟩:=XaK G;rw [XT];have a:=VP.Zdg (.slice none 0 0) [] m w (by omega) (Zq.nil_ w) (by simp);rw [Xz] at a;have q:=Zc m;have g:=Zaz m;obtain ⟨M,D⟩:=Xn (Zb m);rw [D] at a q g ⊢;have E:=hid a;have A:=hid d;have x:=hid g;have hw:IntKind.u64.wrap (m:Int)=(m:Int):=by rw [IntKind.wrap_u64];omega
 obtain ⟨p,F,rfl,_⟩:=(Zd.brow d).shape;clear a d D g;go_enter func191,ntmps191;go_wp2_with fail;refine E.out.mono ?_;rintro e w1 ⟨v1,rfl,h,f⟩;have s:=hid (A.out.keep f);have z:=hid (Zd.brow h);have y:=hid f;have o:=hid (Zaw A.out);obtain ⟨p1,c1,rfl,_⟩:=(Zd.brow h).shape;clear h f E;go_wp2_with (at_builtin;refine Zl rfl _ _ rfl _ l rfl s.out _ M rfl z.out x.out (by omega) ?_)
 intro v2 w2 i j;have t:=hid i;have r:=hid (j.of_below y.out o.out);clear i j;go_wp2_with fail;go_ret;exact ⟨_,rfl,t.out,r.out⟩
theorem Zcq (v:Value) (l:Xu) (n:Int) (w:World) (G:0<=n) (h1:n<=9223372036854775807) (a:Zd 0 w v l) (C:l.length<=1000000000000) :
  Calls prog 90 #[v,.int .i64 n] w (Zlp (l++Zb n.toNat) v w):=by
 obtain ⟨m,rfl⟩:=XaK G;rw [XT];have d:=VP.ZcX m w (by omega);have q:=Zc m;have g:=Zaz m;obtain ⟨M,D⟩:=Xn (Zb m);rw [D] at d q g ⊢;have E:=hid d;have A:=hid a;have x:=hid g;have hw:IntKind.u64.wrap (m:Int)=(m:Int):=by rw [IntKind.wrap_u64];omega
 obtain ⟨p,F,rfl,_⟩:=(Zd.brow a).shape;clear d a D g;go_enter func90,ntmps90;go_wp2_with fail;refine E.out.mono ?_;rintro e w1 ⟨v1,rfl,h,f⟩;have s:=hid (A.out.keep f);have z:=hid (Zd.brow h);have y:=hid f;have o:=hid (Zaw A.out);obtain ⟨p1,c1,rfl,_⟩:=(Zd.brow h).shape;clear h f E;go_wp2_with (at_builtin;refine Zl rfl _ _ rfl _ l rfl s.out _ M rfl z.out x.out (by omega) ?_)
 intro v2 w2 i j;have t:=hid i;have r:=hid (j.of_below y.out o.out);clear i j;go_wp2_with fail;go_ret;exact ⟨_,rfl,t.out,r.out⟩
theorem Zn5 (a:k<qs.length):ZaB 0 (qs.take (k+1))=ZaB 0 (qs.take k)++Zb (qs[k] - ZaV 0 (qs.take k)).toNat/\ZaV 0 (qs.take (k+1))=qs[k]+1:=by
 rw [XG a,Zis,Zgl];exact ⟨rfl,rfl⟩
theorem Zox (h:ZcM 1048576 qs=true) (j:k<qs.length):0<=ZaV 0 (qs.take k)/\ZaV 0 (qs.take k)<=qs[k]/\qs[k]<1048576:=by
 have e:qs.take (k+1)=qs.take k++[qs[k]]:=XG j
 have f:Za2 1048576 (0 - 1) (qs.take (k+1))=true:=by
  have:∀(n:Nat) (d:List Int) (a:Int),Za2 1048576 a d=true->Za2 1048576 a (d.take n)=true:=by
   intro n
   induction n with
   | zero=>intro d a _;rfl
   | succ n ih =>
     intro d a g;cases d with
     | nil=>rfl
     | cons z d =>
       rw [Za2,Xy] at g;rw [Xaz,Za2,Xy];exact ⟨g.1,ih d z g.2⟩
  exact this _ _ _ h
 rw [e,Zgx,Xy,Xy,Xg,Xg] at f;have i:=(Zhb 1048576 (qs.take k) 0 (by omega) f.1).1;exact ⟨i,f.2.1,f.2.2⟩
theorem ZpF (v:Value) (l:Xu) (z:Int) (x:Value) (qs:List Int) (n:Int) (w:World) (hn:0<=n) (ay:okP n (z,qs)) (f:Zd 0 w v l) (hx:IOn (fun b=>v.ownBlock≠some b) w x qs) (aD:l.length+10*qs.length<=900000000000) :
  Calls prog 190 #[v,.agg #[.int .i64 z,x],.int .i64 n] w (Zlp (l++ZeY n (z,qs)) v w):=by
 obtain ⟨al,ap,_,d⟩:=ay;dsimp only at al ap d;have aG:=ZfW d;have ae:ZeY n (z,qs)=Zb (z - n).toNat++(Zb qs.length++ZaB 0 (qs.take qs.length)):=by rw [XC];rfl
 rw [ae];obtain ⟨H,I,rfl,aH,aA,_⟩:=hx.shape;unfold maxLen at aA;have r:Below w.heap.size w (w.alloc (.cells #[.int .i64 z,.slice H qs.length I] 125)):=(Below.refl _ _).alloc (Xc _) _;have F:(w.alloc (.cells #[.int .i64 z,.slice H qs.length I] 125)).heap[w.heap.size]? = some (.cells #[.int .i64 z,.slice H qs.length I] 125):=heap_alloc_new _ _;have ac:v.ownBlock≠some w.heap.size:=fun e=>by have:=Zaw f _ e;omega
 have HX:=hid (hx.keep (Za (fun b=>v.ownBlock≠some b) r) fun _ _ h=>h);have HO:=hid (Zd.keep f r);have aj:=hid (Zaw f);have aF:=hid r;have N:w.heap.size<(w.alloc (.cells #[.int .i64 z,.slice H qs.length I] 125)).heap.size:=by simp
 have ao:=Zc (z - n).toNat;have aq:=Zc qs.length;have an:=hid (fun k=>(ZfN (qs.take k) 0).2);have az:=hid (fun k (hk:k<qs.length)=>Zn5 hk);have au:=hid (fun k (hk:k<qs.length)=>Zox d hk);obtain ⟨nq,g⟩:=Xn qs.length;obtain ⟨W1,p⟩:=Xn (w.alloc (.cells #[.int .i64 z,.slice H qs.length I] 125))
 have T:Hid (∀W u,Grown W1 W v u->W.cell? ⟨w.heap.size,0,none⟩=some (.int .i64 z)/\W.cell? ⟨w.heap.size,1,none⟩=some (.slice H nq I)):=hid (fun W u hg=>by
  rw [p] at F N;have:=(hg.kep.block w.heap.size N ac).trans F;rw [<- g];exact ⟨by rw [cell_of_row W _ 0 _ _ _ this];rfl,by rw [cell_of_row W _ 1 _ _ _ this];rfl⟩)
 have f0:=(T.out W1 v (Grown.refl _ _)).1;have f1:=(T.out W1 v (Grown.refl _ _)).2;have K1:=hid (Za4 v l (z - n) W1 (by omega) (by omega) (by rw [<- p];exact HO.out) (by omega))
 have K2:Hid (∀W u L,Zd 0 W u L->L.length<=1000000000000->Calls prog 191 #[u,.int .i64 nq] W (Zlp (L++Zb qs.length) u W)):=hid (fun W u L h hl=>by
  have:=Za4 u L (nq:Int) W (by omega) (by omega) h hl;rw [XT,<- g] at this;rw [<- g];exact this)
 have V:=hid g;have aC:=hid p;rw [g] at p;rw [g] at HX;obtain ⟨Y,U⟩:=Xn (Zb (z - n).toNat);obtain ⟨X,C⟩:=Xn (Zb qs.length);rw [U] at K1 ao ⊢;rw [C] at aq ⊢;simp only [C] at K2;have t:=hid p;clear f hx r F d ae U C ac aC;go_enter func190,ntmps190;go_wp2_with fail;refine K1.out.mono ?_;rintro e W2 ⟨v2,rfl,ab,E⟩;obtain ⟨f2,f3⟩:=T.out W2 v2 E;have O:=hid (K2.out W2 v2 _ ab (by rw [Xd];omega));have Z:=hid E;clear ab E K1 K2;go_wp2_with fail;refine O.out.mono ?_;rintro e W3 ⟨v3,rfl,af,ah⟩;have j:=Z.out.trans ah;obtain ⟨f4,f5⟩:=T.out W3 v3 j;have M:Hid (Zd 0 W3 v3 (l++(Y++(X++ZaB 0 (qs.take 0))))):=hid (by simp only [XaJ,ZaB,XI,<- Xl];exact af);have ad:=hid j;have J:Hid (ZaV 0 (qs.take 0)=0):=hid rfl;clear af ah j Z O;go_wp2_with fail
 go_loopw [0,7,24] (fun u a i wr=>∃(k:Nat) (A:Int),k<=nq/\i=.int .i64 k/\a=.int .i64 A/\Hid (ZaV 0 (qs.take k)=A)/\Hid (Zd 0 wr u (l++(Y++(X++ZaB 0 (qs.take k)))))/\Hid (Grown W1 wr v u)) (fun _ _ i _=>nq - (intOf i).toNat)
 case atStart=>exact ⟨0,0,by omega,rfl,rfl,J,M,ad⟩
 case round =>
  obtain ⟨k,A,hk,rfl,rfl,D,HOk,q⟩:=hrel;clear M ad J f0 f1 f2 f3 f4 f5;obtain ⟨f0,f1⟩:=T.out wr _ q.out
  by_cases ai:k<nq
  ·have t1:decide ((k:Int)<(nq:Int))=true:=by simp;omega
   have o:k<qs.length:=by rw [V.out];exact ai
   obtain ⟨b,off,rfl,aE,_,G⟩:=(HX.out.keep (by rw [t.out];exact q.out.kep) fun _ _ h=>h:IOn (fun b=>v.ownBlock≠some b) wr _ qs).at_ o;obtain ⟨s,m⟩:=az.out k o;obtain ⟨ar,aa,am⟩:=au.out k o;have aB:=an.out k
   have S:(l++(Y++(X++ZaB 0 (qs.take k)))).length<=1000000000000:=by
    have:(qs.take k).length<=qs.length:=XaU _ _;simp only [Xd];omega
   rw [D.out] at s ar aa;obtain ⟨y,hy⟩:=Xn (qs[k]);rw [hy] at G s m aa am;have HK:=hid (Za4 _ _ (y - A) wr (by omega) (by omega) HOk.out S);have e1:l++(Y++(X++ZaB 0 (qs.take k)))++Zb (y - A).toNat=l++(Y++(X++ZaB 0 (qs.take (k+1)))):=by rw [s];simp only [Xl]
   rw [e1] at HK;have ak:=hid m;clear s m aB S e1 hy D;go_wp2_with fail;refine HK.out.mono ?_;rintro e W4 ⟨v4,rfl,R,ag⟩;have aw:=hid R;have av:=hid (q.out.trans ag);clear R ag HK;go_wp2_with fail;go_roundw
   case rel=>exact ⟨k+1,y+1,by omega,by go_num,rfl,ak,aw,av⟩
   case measure=>simp [intOf];omega
  ·obtain rfl:k=nq:=by omega
   have t1:decide ((k:Int)<(k:Int))=false:=by simp
   have ho:=HOk.out;rw [<- V.out] at ho;have ax:=hid ho;clear D ho HOk;go_wp2_with fail;go_ret;exact ⟨_,rfl,ax.out,q.out.of_below (by rw [<- t.out];exact (Below.refl _ _).alloc (Xc _) _) aj.out⟩
variable {w W wr w':World} {gb:Option Nat} {vh vb:Value} {H Bd:Xu} {k:Nat}
def encR (ps:List Zm):Xu×Int:=if isL ps=true then (ZV ps,0) else ([],80)
def Zs9 (r:Xu×Int) (w:World) (e:Ending) (w':World):Prop:=∃v',e=.returned (.tuple #[v',.int .i64 r.2])/\Zd w.heap.size w' v' r.1/\Below w.heap.size w w'
structure EncSt (w W wr:World) (gb:Option Nat) (vh vb:Value) (H Bd:Xu):Prop where
 low:Below w.heap.size w wr
 gsz:W.heap.size<=wr.heap.size
 wsz:w.heap.size<=W.heap.size
 blk:∀g,gb=some g->g<W.heap.size/\wr.heap[g]? = W.heap[g]?
 oh:Zd 0 wr vh H
 ob:Zd 0 wr vb Bd
 fh:∀k,vh.ownBlock=some k->w.heap.size<=k/\gb≠some k
 fb:∀k,vb.ownBlock=some k->w.heap.size<=k/\gb≠some k
 ap:∀k,vh.ownBlock=some k->vb.ownBlock≠some k
theorem EncSt.swap (h:EncSt w W wr gb vh vb H Bd):EncSt w W wr gb vb vh Bd H :=
 ⟨h.low,h.gsz,h.wsz,h.blk,h.ob,h.oh,h.fb,h.fh,fun k b a=>h.ap k a b⟩
theorem EncSt.below (h:EncSt w W wr gb vh vb H Bd) (a:Below wr.heap.size wr w'):EncSt w W w' gb vh vb H Bd :=
 ⟨h.low.trans (a.mono h.low.size),Xx h.gsz a.size,h.wsz,fun g b=>⟨(h.blk g b).1,(a.block g (XK (h.blk g b).1 h.gsz)).trans (h.blk g b).2⟩,Zd.keep h.oh a,Zd.keep h.ob a,h.fh,h.fb,h.ap⟩
theorem EncSt.growB {a:Value} {f:Xu} (h:EncSt w W wr gb vh vb H Bd) (d:Grown wr w' vb a) (m:Zd 0 w' a f):EncSt w W w' gb vh a H f:=by
 have hs:=d.kep.size;refine ⟨h.low.trans (d.kep.below h.low.size fun k c e=>by have:=(h.fb k e).1;omega),Xx h.gsz hs,h.wsz,fun g b => ?_,Zd.kepOwn h.oh d.kep (fun k c e=>h.ap k c e),m,h.fh,fun k c => ?_,fun k c i => ?_⟩
 ·have j:=(h.blk g b).1;have n:=h.gsz;exact ⟨j,(d.kep.block g (by omega) (fun e=>(h.fb g e).2 b)).trans (h.blk g b).2⟩
 ·have n:=h.gsz;have h3:=h.wsz;rcases d.2 k c with e|e
  ·exact h.fb k e
  ·exact ⟨by omega,fun l=>by have:=(h.blk k l).1;omega⟩
 ·rcases d.2 k i with e|e
  ·exact h.ap k c e
  ·have:=Zaw h.oh k c;omega
theorem EncSt.growH {a:Value} {b:Xu} (h:EncSt w W wr gb vh vb H Bd) (c:Grown wr w' vh a) (d:Zd 0 w' a b):EncSt w W w' gb a vb b Bd :=
 (h.swap.growB c d).swap
theorem Zuc {ps:List Zm} (a:k<ps.length):ZF 0 (ps.take (k+1))=ZF 0 (ps.take k)++ZeY (ZI 0 (ps.take k)) ps[k]/\ZI 0 (ps.take (k+1))=ps[k].1+1:=by
 rw [XG a,ZbR,Zde];exact ⟨by rw [ZF,ZF,XI],rfl⟩
theorem ZA2 {ps:List Zm} (h:okL 0 ps) (a:k<ps.length):0<=ZI 0 (ps.take k)/\okP (ZI 0 (ps.take k)) ps[k]:=by
 refine ⟨Zje (ZfT h k),?_⟩;have:=Zhf h k;rw [X9 a,okL] at this;exact this.1
theorem Zuu (ps:List Zm) (i:Nat):ZbC ps i<=ZbC ps (i+1):=by
 unfold ZbC;have e:ps.take (32*i)=(ps.take (32*(i+1))).take (32*i):=by rw [List.take_take,Xao (by omega)]
 rw [e]
 conv=>rhs;rw [<- X6 (32*i) (ps.take (32*(i+1))),ZbR,Xd]
 omega
theorem Zpq:∀(ps:List Zm) (k:Nat) (h:k<ps.length),ps[k].2.length<=ZaU ps
 | p::ps,0,_=>by rw [ZaU];simp
 | p::ps,k+1,h=>by
   have:=Zpq ps k (by simpa using h);rw [ZaU];simp only [Xbv];omega
theorem Zem (v:Value) (ps:List Zm) (w:World) (hr:Zbp w v ps) (hl:ps.length<=100000) (hs:ZaU ps<=1000000000):Calls prog 129 #[v] w (Zs9 (encR ps) w):=by
 have s:=hid (Zet v ps w hr (by omega));unfold encR
 by_cases U:isL ps=true
 ·rw [Xe U] at s ⊢;have O:=(Zee ps).1 U;have bh:=hid (fun k (E:k<ps.length)=>Zuc E);have bk:=hid (fun k (E:k<ps.length)=>ZA2 O E);have aK:=hid hr;have bq:=hid (fun k (E:k<ps.length)=>Zpq ps k E);have ay:=hid (fun k=>show ZbC ps k<=20000000000 by have:=Ztk ps k;omega)
  have af:=hid (fun k=>show (ZF 0 (ps.take k)).length<=20000000000 by
   have h1:=Zes (ps.take k) 0;have h2:=ZeB ps k;have h3:(ps.take k).length<=ps.length:=XaU _ _;omega)
  have bn:=hid (fun k=>ZbN (ps.take k) 0 (ZfT O k));obtain ⟨p,ak,rfl,aI,aS,_⟩:=hr.shape
  have hp:0<ps.length->∃b off,p=some ⟨b,off,none⟩:=fun h=>by
   obtain ⟨b,off,x,hp,_⟩:=hr.at_ h;exact ⟨b,off,hp⟩
  obtain ⟨b,off,au⟩:∃b off,0<ps.length->p=some ⟨b,off,none⟩:=by
   by_cases h:0<ps.length
   ·obtain ⟨b,off,e⟩:=hp h;exact ⟨b,off,fun _=>e⟩
   ·exact ⟨0,0,fun h2=>absurd h2 h⟩
  have aM:=hid au;have y:=hid (fun W=>VP.Zdg (.slice none 0 0) [] ps.length W (by omega) (Zq.nil_ W) (by simp));have B:=hid (fun W=>ZlM b off ps.length ak p W au aI aS (by omega));obtain ⟨n,aw⟩:=Xn ps.length;have R:=hid aw;unfold maxLen at aS;have hw:IntKind.u64.wrap (n:Int)=(n:Int):=by rw [IntKind.wrap_u64];omega
  rw [aw] at s aK y B hl aI aM ⊢;simp only [Xz] at y;clear hr hp au aw U O;go_enter func129,ntmps129;go_wp2_with fail;refine s.out.mono ?_;rintro e w1 ⟨rfl,I⟩;have Z:=hid I;clear I s;go_wp2_with fail;refine (y.out _).mono ?_;rintro e w2 ⟨vh,rfl,aR,am⟩;have aT:=hid (grow Z.out am);have av:=hid aR;have aQ:=Z.out.size;have aO:=am.size;clear aR am y;go_wp2_with fail;refine (B.out _).mono ?_;rintro e w3 ⟨vk,rfl,D,aa⟩;obtain ⟨pk,ck,rfl,bc,az⟩:=D.shape;rw [ZjL] at bc D ⊢
  have f:EncSt w w3 w3 (Value.slice pk (cnt n) ck).ownBlock vh (.slice none 0 0) (Zb n++Z4 ps 0 0) (ZF 0 (ps.take (32*0))):=by
   refine ⟨aT.out.trans (aa.mono (by have:=aT.out.size;omega)),Xc _,by have:=aa.size;omega,fun g hg => ?_,?_,World.ownsRow_nil _ _ _ _,fun k E => ?_,(fun k E=>by cases E),(fun k E az=>by cases az)⟩
   ·exact ⟨(World.ownsRow.lt D g hg).2,rfl⟩
   ·rw [Z4,XI];exact Zd.zero (Zd.keep av.out aa)
   ·have h1:=(World.ownsRow.lt av.out k E);exact ⟨by omega,fun a9=>by have:=(World.ownsRow.lt D k a9).1;omega⟩
  have ae:=hid f;have br:=hid D;have a4:Hid (ZI 0 (ps.take (32*0))=0):=hid (by rw [XaY,XaJ];rfl);clear f D aa av B aQ aO;go_wp2_with fail
  go_loopw [5,6,7,25] (fun vh vb a iv wr=>∃(i:Nat) (A:Int),i<=cnt n/\iv=.int .i64 i/\a=.int .i64 A/\Hid (ZI 0 (ps.take (32*i))=A)/\Hid (EncSt w w3 wr (Value.slice pk (cnt n) ck).ownBlock vh vb (Zb n++Z4 ps 0 i) (ZF 0 (ps.take (32*i))))) (fun _ _ _ iv _=>cnt n - (intOf iv).toNat)
  case atStart=>exact ⟨0,0,by omega,rfl,rfl,a4,ae⟩
  case round =>
   obtain ⟨i,A,hi,rfl,rfl,F,d⟩:=hrel;clear a4 ae
   by_cases ag:i<cnt n
   ·have t1:decide ((i:Int)<(cnt n:Int))=true:=by simp;omega
    have bm:32*i<n:=by unfold cnt at ag;omega
    obtain ⟨g,rfl,bE,bH,M,_⟩:=br.out.at_ (ZpL b off n ak (cnt n) i ag);have q:=(World.cell?_of_block (a:=⟨g,i,none⟩) (d.out.blk g rfl).2).trans M;have bo:=hid (aM.out (by omega));unfold Zt8 at q;obtain ⟨m,hm⟩:=Xn (min 32 (n - 32*i));obtain ⟨cc,aN⟩:=Xn (ak - 32*i);rw [hm,aN] at q;have bA:0<m:=by omega
    have bK:32*i+m<=n:=by omega
    have bF:m<=cc:=by omega
    have X:=(Zd.brow d.out.ob).shape;obtain ⟨pb,cb,rfl,_,_⟩:=X;have J:Hid (EncSt w w3 wr (Value.slice (some ⟨g,0,none⟩) (cnt n) ck).ownBlock u5 (.slice pb (ZF 0 (ps.take (32*i))).length cb) (Zb n++Z4 ps 0 i) (ZF 0 (ps.take (32*i+0)))):=hid (by rw [Xah];exact d.out);have aA:Hid (ZI 0 (ps.take (32*i+0))=A):=hid (by rw [Xah];exact F.out);obtain ⟨S0,ac⟩:=Xn ((ZF 0 (ps.take (32*i))).length);rw [ac] at J;have bj:=hid ac;have a5:=hid hm;have bG:=hid bm;rw [ac];clear d F M ac hm aN;go_wp2_with fail
    go_loopw [6,7,33] (fun vb a jv wr=>∃(j:Nat) (A:Int),j<=m/\jv=.int .i64 j/\a=.int .i64 A/\Hid (ZI 0 (ps.take (32*i+j))=A)/\Hid (EncSt w w3 wr (Value.slice (some ⟨g,0,none⟩) (cnt n) ck).ownBlock u5 vb (Zb n++Z4 ps 0 i) (ZF 0 (ps.take (32*i+j))))) (fun _ _ jv _=>m - (intOf jv).toNat)
    case atStart=>exact ⟨0,A,by omega,rfl,rfl,aA,J⟩
    case round =>
     obtain ⟨j,V,hj,rfl,rfl,F,d⟩:=hrel;clear aA J q
     by_cases bJ:j<m
     ·have t2:decide ((j:Int)<(m:Int))=true:=by simp;omega
      have L:32*i+j<ps.length:=by rw [R.out];omega
      obtain ⟨b',bx,x,l,X,_,aX,an,hx⟩:=(Zbp.pon aK.out).at_ L;rw [bo.out] at l;simp only [Xv,Addr.mk.injEq] at l;obtain ⟨rfl,rfl,_⟩:=l;have C:=bh.out _ L;have o:=bk.out _ L;have ap:=bq.out _ L;have l:=af.out (32*i+j);have low:=d.out.low;have T:=(low.cell (p:=⟨b,off+(32*i+j)*2,none⟩) X).trans aX;have aW:=(low.cell (p:=⟨b,off+(32*i+j)*2+1,none⟩) X).trans an;rw [show off+(32*i+j)*2=off+64*i+j*2 by omega] at T aW;rw [F.out] at C o;obtain ⟨⟨z,qs⟩,hz⟩:∃z,ps[32*i+j]=z:=⟨_,rfl⟩;rw [hz] at T hx C o ap;dsimp only at T hx C o ap;have aq:Below wr.heap.size wr (wr.alloc (.cells #[.int .i64 z,x] 125)):=(Below.refl _ _).alloc (Xc _) _;have S:=d.out.below aq;have aD:IOn (fun c=>u6.ownBlock≠some c) (wr.alloc (.cells #[.int .i64 z,x] 125)) x qs:=hx.keep (Za _ (low.trans (aq.mono low.size))) (fun c hc an e=>by have:=(d.out.fb c e).1;omega);have bs:=o.2.1;have bp:=o.2.2.1;dsimp only at bs bp;have r:=ZpF u6 (ZF 0 (ps.take (32*i+j))) z x qs V _ o.1 o.2 S.ob aD (by omega);rw [<- C.1] at r;have aZ:=hid r;have ad:=hid S;have a8:=hid C.2;have bu:=o.1;have bi:Hid (u6.ownBlock≠some wr.heap.size):=hid (fun e=>by have:=Zaw d.out.ob _ e;omega);have aG:Hid ((wr.alloc (.cells #[.int .i64 z,x] 125)).heap[wr.heap.size]? = some (.cells #[.int .i64 z,x] 125)):=hid (heap_alloc_new _ _);obtain ⟨px,cx,rfl,_⟩:=hx.shape;generalize qs.length=nx at *;clear C o ap l low aX an hx aD aq S r hz L d F;go_wp2_with fail;refine aZ.out.mono ?_;rintro e w5 ⟨v5,rfl,a0,ax⟩;have aU:=hid (ad.out.growB ax a0);have aY:=(ax.kep.block wr.heap.size (by simp) bi.out).trans aG.out;have f0:w5.cell? ⟨wr.heap.size,0,none⟩=some (.int .i64 z):=by rw [cell_of_row w5 _ 0 _ _ _ aY];rfl
      clear ax a0 aY ad aZ aG;go_wp2_with fail;go_roundw
      case rel=>exact ⟨j+1,z+1,by omega,by go_num,rfl,by rw [<- Xav];exact a8,by rw [<- Xav];exact aU⟩
      case measure=>simp [intOf];omega
     ·obtain rfl:j=m:=by omega
      have t2:decide ((j:Int)<(j:Int))=false:=by simp
      have G:ps.take (32*i+j)=ps.take (32*(i+1)):=by
       have h1:=a5.out;have h2:=R.out
       by_cases bB:32<=n - 32*i
       ·rw [show 32*i+j=32*(i+1) by omega]
       ·rw [XM (by omega),XM (by omega)]
      rw [G] at F d;have f:=d.out;have al:=bn.out (32*(i+1));have l:=af.out (32*(i+1));have aC:=Zuu ps i;have bz:=ay.out (i+1);have bt:=ay.out i
      have bD:1<=V:=by
       have h3:(ps.take (32*(i+1))).length>=1:=by rw [Xi,R.out];omega
       rw [F.out] at al;omega
      have aH:h1L ps i=(V - 1).toNat:=by unfold h1L;rw [F.out]
      have bw:V<=65536:=by rw [F.out] at al;omega
      have e2:(ZF 0 (ps.take (32*(i+1)))).length=ZbC ps (i+1):=rfl;have e1:S0=ZbC ps i:=bj.out.symm;have aj:=ZdB ps i 0;have ah:=Zc n;have bC:i<=n:=by unfold cnt at ag;omega
      have aF:∀W,Zd 0 W u5 (Zb n++Z4 ps 0 i)->Calls prog _ #[u5,.int .i64 (V - 1)] W _:=fun W h=>Za4 u5 _ (V - 1) W (by omega) (by omega) h (by rw [Xd];omega);have ao:∀W u,Zd 0 W u (Zb n++Z4 ps 0 i++Zb (V - 1).toNat)->Calls prog _ #[u,.int .i64 ((ZbC ps (i+1):Int) - (ZbC ps i:Int))] W _:=fun W u h=>Za4 u _ ((ZbC ps (i+1):Int) - (ZbC ps i:Int)) W (by omega) (by omega) h (by have:=Zc (V - 1).toNat;simp only [Xd];omega)
      have e3:Zb n++Z4 ps 0 i++Zb (V - 1).toNat++Zb ((ZbC ps (i+1):Int) - (ZbC ps i:Int)).toNat=Zb n++Z4 ps 0 (i+1):=by
       rw [Zha,XL,ZgI,aH,h2L,show ((ZbC ps (i+1):Int) - (ZbC ps i:Int)).toNat=ZbC ps (i+1) - ZbC ps i by omega];simp only [Xl]
      rw [e3] at ao;have y:=hid aF;have B:=hid ao;obtain ⟨pq,cq,rfl,ab,a2⟩:=(Zd.brow f.ob).shape;rw [e2] at f ab ⊢;rw [e1];have t:=hid f;have a7:Hid (ZbC ps (i+1)=(ZF 0 (ps.take (32*(i+1)))).length):=hid rfl;obtain ⟨E1,Y⟩:=Xn (ZbC ps (i+1));obtain ⟨E0,ar⟩:=Xn (ZbC ps i);rw [Y] at t a7 aC ⊢;rw [ar] at aC ⊢;simp only [Y,ar] at B;rw [Y] at e2;have bv:E1<=100000000000:=by omega
      clear f al l aj ah aF ao e1 e2 e3 G aH d Y ar ab;go_wp2_with fail;refine (y.out _ t.out.oh).mono ?_;rintro e w6 ⟨v6,rfl,aJ,aB⟩;have N:=hid (t.out.growH aB aJ);clear aJ aB t;go_wp2_with fail;refine (B.out _ _ N.out.oh).mono ?_;rintro e w7 ⟨v7,rfl,aL,aV⟩;have a3:=hid (N.out.growH aV aL);clear aL aV N;go_wp2_with fail;go_roundw
      case rel=>exact ⟨i+1,V,by omega,by go_num,rfl,F,a3⟩
      case measure=>simp [intOf];omega
   ·obtain rfl:i=cnt n:=by omega
    have t1:decide ((cnt n:Int)<(cnt n:Int))=false:=by simp
    have G:ps.take (32*cnt n)=ps:=XM (by rw [R.out];unfold cnt;omega);rw [G] at d;have f:=d.out;have l:=af.out ps.length;rw [XC] at l;have aj:=ZdB ps (cnt n) 0;have ah:=Zc n;have bI:cnt n<=n:=by unfold cnt;omega
    have ba:=hid (Zd.from f.oh (fun k E=>(f.fh k E).1));have be:=hid (Zd.brow f.ob);have aP:=hid f.low;have aE:(Zb n++Z4 ps 0 (cnt n)).length+(ZF 0 ps).length<=140737488355328:=by rw [Xd];omega
    have a6:=f.low.size;have bd:Hid (ZV ps=Zb n++(Z4 ps 0 (cnt n)++ZF 0 ps)):=hid (by unfold ZV;rw [R.out,Xl]);obtain ⟨pq,cq,rfl,ab,a2⟩:=(Zd.brow f.ob).shape;obtain ⟨pr,cr,rfl,bg,bb⟩:=(Zd.brow f.oh).shape;clear f l aj ah d G F ab a2 bg bb;go_wp2_with (at_builtin;refine Zg rfl _ _ rfl w.heap.size _ (Zb n++Z4 ps 0 (cnt n)) rfl ba.out _ (ZF 0 ps) rfl be.out aE a6 ?_)
    intro v8 w8 ai a1;rw [<- bd.out] at ai;have bl:=hid ai;have bf:=hid (aP.out.trans a1);clear ai a1;go_wp2_with fail;go_ret2;exact ⟨_,rfl,bl.out,bf.out⟩
 ·rw [Xa U] at s ⊢;clear U hr;go_enter func129,ntmps129;go_wp2_with fail;refine s.out.mono ?_;rintro e w1 ⟨rfl,I⟩;have Z:=hid I;clear I s;go_wp2_with fail;go_ret2;exact ⟨_,rfl,World.ownsRow_nil _ _ _ _,Z.out⟩
variable {B k:Nat} {wr w' w:World} {vh vb:Value} {H Bd:Xu}
theorem Zb3 {u u':Value} {L f:Xu} (g:B<=wr.heap.size) (h:Zd B wr u L) (c:Grown wr w' u u') (b:Zd 0 w' u' f):Zd B w' u' f/\Below B wr w':=by
 have d:∀k,u.ownBlock=some k->B<=k:=fun k a=>(World.ownsRow.lt h k a).1;refine ⟨Zd.from b fun k a => ?_,c.kep.below g fun k a e=>by have:=d k e;omega⟩;rcases c.2 k a with e|e
 ·exact d k e
 ·omega
theorem POn.sub {S:Nat->Prop} {b off n a:Nat} {ps:List Zm} (h:POn S w (.slice (some ⟨b,off,none⟩) n a) ps) {i j:Nat} (u:i<=j) (hj:j<=n):POn S w (.slice (some ⟨b,off+i*2,none⟩) (j - i) (a - i)) ((ps.drop i).take (j - i)):=by
 obtain ⟨p,c,v,g,h1,h2,h3,m,h⟩:=h;simp only [Value.slice.injEq] at g;obtain ⟨rfl,rfl,rfl⟩:=g;have s:=m.1;refine ⟨_,_,(v.drop i).take (j - i),by rw [Xi,Xj];congr 1;omega,by rw [Xi,Xj];omega,by omega,(fun r=>by cases r),⟨by rw [Xi,Xi,Xj,Xj,s],fun k f e => ?_⟩,?_⟩
 ·rw [Xi,Xj] at f e;simp only [Xbb,Xa0];exact m.2 (i+k) (by omega) (by omega)
 ·rcases h with h|⟨b',l,o,d,t,q⟩
  ·subst h;left;simp
  ·simp only [Xv,Addr.mk.injEq] at o;obtain ⟨rfl,rfl,_⟩:=o;right;refine ⟨b,off+i*2,rfl,d,t,fun k f => ?_⟩;rw [Xi,Xj] at f;simp only [Xbb,Xa0];have:=q (i+k) (by omega);rw [show off+i*2+k*2=off+(i+k)*2 by omega];exact this
theorem ZlN {n:Int} {ps:List Zm} (a:k<ps.length):ZF n (ps.take (k+1))=ZF n (ps.take k)++ZeY (ZI n (ps.take k)) ps[k]/\ZI n (ps.take (k+1))=ps[k].1+1:=by
 rw [XG a,ZbR,Zde];exact ⟨by rw [ZF,ZF,XI],rfl⟩
theorem Zyr {n:Int} {ps:List Zm} (h:okL n ps) (a:k<ps.length):n<=ZI n (ps.take k)/\okP (ZI n (ps.take k)) ps[k]:=by
 refine ⟨(ZbN _ n (ZfT h k)).1,?_⟩;have:=Zhf h k;rw [X9 a,okL] at this;exact this.1
theorem ZiB (v:Value) (ps:List Zm) (a:Int) (w:World) (hr:Zbp w v ps) (ha : -1<=a) (az:okL (a+1) ps) (hl:ps.length<=100000) (hs:ZaU ps<=1000000000) (bb:a<=65536):Calls prog 91 #[v,.int .i64 a] w (ZS w.heap.size (ZF (a+1) ps) w):=by
 obtain ⟨p,a8,rfl,a9,aW,_⟩:=hr.shape;unfold maxLen at aW;have HR:=hid hr;have aX:=hid (fun k (o:k<ps.length)=>ZlN (n:=a+1) o);have a0:=hid (fun k (o:k<ps.length)=>Zyr az o);have a6:=hid (fun k (o:k<ps.length)=>Zpq ps k o)
 have aH:=hid (fun k=>show (ZF (a+1) (ps.take k)).length<=20000000000 by
  have h1:=Zes (ps.take k) (a+1);have h2:=ZeB ps k;have h3:(ps.take k).length<=ps.length:=XaU _ _;omega)
 have aa:Hid (Zd w.heap.size w (.slice none 0 0) (ZF (a+1) (ps.take 0))):=hid (World.ownsRow_nil _ _ _ _);have aG:Hid (ZI (a+1) (ps.take 0)=a+1):=hid rfl;have aN:Hid (ZF (a+1) (ps.take ps.length)=ZF (a+1) ps):=hid (by rw [XC]);clear hr az;go_enter func91,ntmps91;go_wp2_with fail
 go_loopw [1,5,6] (fun av u iv wr=>∃(i:Nat) (A:Int),i<=ps.length/\iv=.int .i64 i/\av=.int .i64 A/\Hid (ZI (a+1) (ps.take i)=A+1)/\Hid (Zd w.heap.size wr u (ZF (a+1) (ps.take i)))/\Hid (Below w.heap.size w wr)) (fun _ _ iv _=>ps.length - (intOf iv).toNat)
 case atStart=>exact ⟨0,a,by omega,rfl,rfl,aG,aa,hid (Below.refl _ _)⟩
 case round =>
  obtain ⟨i,A,hi,rfl,rfl,HA,HO,HB⟩:=hrel;clear aG aa
  by_cases q:i<ps.length
  ·have t1:decide ((i:Int)<(ps.length:Int))=true:=by simp;omega
   obtain ⟨b,off,x,rfl,ab,_,C,al,hx⟩:=(Zbp.pon HR.out).at_ q;have c:=aX.out _ q;have g:=a0.out _ q;have X:=a6.out _ q;have aL:=aH.out i;rw [HA.out] at c g;obtain ⟨⟨z,qs⟩,hz⟩:∃z,ps[i]=z:=⟨_,rfl⟩;rw [hz] at C hx c g X;dsimp only at C hx c g X;have aI:=HB.out.size;have hF:∀W,Below w.heap.size w W->W.cell? ⟨b,off+i*2,none⟩=some (.int .i64 z)/\W.cell? ⟨b,off+i*2+1,none⟩=some x:=fun W hW=>⟨(hW.cell (p:=⟨b,off+i*2,none⟩) ab).trans C,(hW.cell (p:=⟨b,off+i*2+1,none⟩) ab).trans al⟩;have ba : -1<=A:=by have:=g.1;omega
   obtain ⟨aK,aR,aj,s⟩:=g.2;dsimp only at aK aR aj s;have a1:=ZfW s;have aq:=fun k (o:k<qs.length)=>Zn5 o;have ao:=fun k (o:k<qs.length)=>Zox s o;have ac:=fun k=>(ZfN (qs.take k) 0).2;have r:=Zcq u5 _ (z - A - 1) wr (by omega) (by omega) (Zd.zero HO.out) (by omega)
   have T:∀W u L,Zd 0 W u L->L.length<=1000000000000->Calls prog 90 #[u,.int .i64 qs.length] W (Zlp (L++Zb qs.length) u W):=fun W u L h hl=>by
    have:=Zcq u L (qs.length:Int) W (by omega) (by omega) h hl;rw [XT] at this;exact this
   have aw:ZeY (A+1) (z,qs)=Zb (z - A - 1).toNat++(Zb qs.length++ZaB 0 (qs.take qs.length)):=by
    rw [XC];unfold ZeY;dsimp only;rw [show z - (A+1)=z - A - 1 by omega]
   rw [aw] at c;obtain ⟨px,cx,rfl,aS,aZ,_⟩:=hx.shape;unfold maxLen at aZ;obtain ⟨P0,ap⟩:=Xn (ZF (a+1) (ps.take i));obtain ⟨P1,ak⟩:=Xn (Zb (z - A - 1).toNat);obtain ⟨P2,M⟩:=Xn (Zb qs.length);have aQ:=Zc (z - A - 1).toNat;have aT:=Zc qs.length;rw [ap] at HO r aL c;rw [ak] at r aQ c;simp only [M] at T;rw [M] at aT c;have ad:=hid r;have N:=hid T;have HF:=hid hF;have HX:=hid hx;have a3:=hid aq;have aV:=hid ao;have aP:=hid ac;have am:=hid c.1;have ae:=hid c.2;obtain ⟨f0,f1⟩:=hF wr HB.out;obtain ⟨nq,l⟩:=Xn qs.length;have S:=hid l;rw [l] at f1 N aS a1 X;simp only [l] at HF;rw [l] at HX;clear c g C al hz hF r T aw ap ak M aq ao ac hx l HA aj s;go_wp2_with fail;refine ad.out.mono ?_;rintro e w2 ⟨u2,rfl,U,an⟩;obtain ⟨F,I⟩:=Zb3 aI HO.out an U;have a7:=hid F;have V:=hid (HB.out.trans I);have aD:=hid (N.out w2 u2 _ U (by rw [Xd];omega));obtain ⟨f2,f3⟩:=HF.out w2 V.out;have ax:=V.out.size;clear U an F I ad N;go_wp2_with fail;refine aD.out.mono ?_;rintro e w3 ⟨u3,rfl,aA,aF⟩;obtain ⟨J,E⟩:=Zb3 ax a7.out aF aA;have aO:=hid (V.out.trans E);have aC:Hid (Zd w.heap.size w3 u3 (P0++(P1++(P2++ZaB 0 (qs.take 0))))):=hid (by simp only [XaJ,ZaB,XI,<- Xl];exact J);have aB:Hid (ZaV 0 (qs.take 0) = -1+1):=hid rfl;clear aA aF J E aD f0 f1 f2 f3;go_wp2_with fail
   go_loopw [5,7,8] (fun u lv kv wr=>∃(k:Nat) (L:Int),k<=nq/\kv=.int .i64 k/\lv=.int .i64 L/\Hid (ZaV 0 (qs.take k)=L+1)/\Hid (Zd w.heap.size wr u (P0++(P1++(P2++ZaB 0 (qs.take k)))))/\Hid (Below w.heap.size w wr)) (fun _ _ kv _=>nq - (intOf kv).toNat)
   case atStart=>exact ⟨0, -1,by omega,rfl,rfl,aB,aC,aO⟩
   case round =>
    obtain ⟨k,L,o,rfl,rfl,HL,HOk,m⟩:=hrel;clear aB aC;obtain ⟨f0,f1⟩:=HF.out wr m.out;have ag:=m.out.size
    by_cases a5:k<nq
    ·have t2:decide ((k:Int)<(nq:Int))=true:=by simp;omega
     have Z:k<qs.length:=by rw [S.out];exact a5
     obtain ⟨b2,ay,rfl,au,bc,d⟩:=HX.out.at_ Z;obtain ⟨t,j⟩:=a3.out k Z;obtain ⟨aU,ar,aM⟩:=aV.out k Z;have a4:=aP.out k
     have ai:(P0++(P1++(P2++ZaB 0 (qs.take k)))).length<=1000000000000:=by
      have:(qs.take k).length<=qs.length:=XaU _ _;rw [S.out] at this;simp only [Xd];omega
     rw [HL.out] at t aU ar;obtain ⟨y,hy⟩:=Xn (qs[k]);rw [hy] at d t j ar aM;have af:=hid (fun W (hW:Below w.heap.size w W)=>(hW.cell (p:=⟨b2,ay+k,none⟩) au).trans d);have f:=af.out wr m.out;have HK:=hid (Zcq _ _ (y - L - 1) wr (by omega) (by omega) (Zd.zero HOk.out) ai)
     have e1:P0++(P1++(P2++ZaB 0 (qs.take k)))++Zb (y - L - 1).toNat=P0++(P1++(P2++ZaB 0 (qs.take (k+1)))):=by
      rw [t,show y - (L+1)=y - L - 1 by omega];simp only [Xl]
     rw [e1] at HK;have aJ:=hid j;clear t j a4 ai e1 hy HL d;go_wp2_with fail;refine HK.out.mono ?_;rintro e w4 ⟨u4,rfl,ah,aE⟩;obtain ⟨G,D⟩:=Zb3 ag HOk.out aE ah;have aY:=hid G;have O:=hid (m.out.trans D);clear f0 f1 f ah aE G D HK;obtain ⟨f0,f1⟩:=HF.out w4 O.out;have f:=af.out w4 O.out;go_wp2_with fail;go_roundw
     case rel=>exact ⟨k+1,y,by omega,by go_num,rfl,aJ,aY,O⟩
     case measure=>simp [intOf];omega
    ·obtain rfl:k=nq:=by omega
     have t2:decide ((k:Int)<(k:Int))=false:=by simp
     have R:=HOk.out;rw [<- S.out,<- am.out] at R;have Y:=hid R;have a2:Hid (ZI (a+1) (ps.take (i+1))=z+1):=hid ae.out;clear HL R HOk;go_wp2_with fail;go_roundw
     case rel=>exact ⟨i+1,z,by omega,by go_num,rfl,a2,Y,m⟩
     case measure=>simp [intOf];omega
  ·obtain rfl:i=ps.length:=by omega
   have t1:decide ((ps.length:Int)<(ps.length:Int))=false:=by simp
   have R:=HO.out;rw [aN.out] at R;have Y:=hid R;clear HA R HO;go_wp2_with fail;go_ret;exact ⟨_,rfl,Y.out,HB.out⟩
theorem EncSt.forget {W:World} {c:Option Nat} (h:EncSt w W wr c vh vb H Bd):EncSt w w wr none vh vb H Bd :=
 ⟨h.low,h.low.size,Xc _,(fun g b=>by cases b),h.oh,h.ob,fun k a=>⟨(h.fh k a).1,by simp⟩,fun k a=>⟨(h.fb k a).1,by simp⟩,h.ap⟩
theorem EncSt.row {x:Value} {X:Xu} (h:EncSt w w wr none vh vb H Bd) {c:World} (b:Below wr.heap.size wr c) (d:Zd wr.heap.size c x X):EncSt w c c x.ownBlock vh vb H Bd :=
 ⟨h.low.trans (b.mono h.low.size),Xc _,Xx h.low.size b.size,fun g f=>⟨(World.ownsRow.lt d g f).2,rfl⟩,Zd.keep h.oh b,Zd.keep h.ob b,
  fun k a=>⟨(h.fh k a).1,fun e=>by have i:=(World.ownsRow.lt d k e).1;have j:=Zaw h.oh k a;omega⟩,
  fun k a=>⟨(h.fb k a).1,fun e=>by have i:=(World.ownsRow.lt d k e).1;have j:=Zaw h.ob k a;omega⟩,h.ap⟩
theorem Zgs {v:Value} {l:Xu} (h:Zd B w v l) (i:∀g,v.ownBlock=some g->w'.heap[g]? = w.heap[g]?):Zd B w' v l:=by
 refine ⟨h.1,?_⟩;rcases h.2 with f|⟨g,b,a,c,e,d,rest⟩
 ·exact .inl f
 ·exact .inr ⟨g,b,a,c,e,by rw [i g (by rw [c];rfl)];exact d,rest⟩
theorem ZrJ (ps:List Zm) (i M:Nat) (a:ps.take M=ps.take (32*(i+1))) (h1:32*i<=M):ZF 0 (ps.take (32*(i+1)))=ZF 0 (ps.take (32*i))++ZF (ZI 0 (ps.take (32*i))) ((ps.drop (32*i)).take (M - 32*i)):=by
 rw [<- ZbR,<- a,<- List.take_add,show 32*i+(M - 32*i)=M by omega]
theorem Zyp {ps:List Zm} (h:okL 0 ps) (i k:Nat):okL (ZI 0 (ps.take i)) ((ps.drop i).take k):=ZfT (Zhf h i) k
theorem ZkY:∀(a b:List Zm),ZaU (a++b)=ZaU a+ZaU b
 | [],b=>by simp [ZaU]
 | p::a,b=>by rw [XJ,ZaU,ZaU,ZkY a b];omega
theorem ZvR (ps:List Zm) (i:Nat):ZaU (ps.drop i)<=ZaU ps:=by
 have:=ZkY (ps.take i) (ps.drop i);rw [X6] at this;omega
theorem Zdh (v:Value) (ps:List Zm) (w:World) (hr:Zbp w v ps) (hl:ps.length<=100000) (hs:ZaU ps<=1000000000):Calls prog 42 #[v] w (Zs9 (encR ps) w):=by
 have l:=hid (ZCo v ps w hr);unfold encR;cases hok:isL ps with
 | true =>
   rw [hok] at l;rw [Xe rfl];have J:=(Zee ps).1 hok;have R:=hid hr;have aV:=hid (fun k=>show ZbC ps k<=20000000000 by have:=Ztk ps k;omega)
   have ao:=hid (fun k=>show (ZF 0 (ps.take k)).length<=20000000000 by
    have h1:=Zes (ps.take k) 0;have h2:=ZeB ps k;have h3:(ps.take k).length<=ps.length:=XaU _ _;omega)
   have aM:=hid (fun k=>ZbN (ps.take k) 0 (ZfT J k));have ai:=hid (fun i k=>Zyp J i k);have bi:=hid (fun k (S:k<ps.length)=>(ZlN (n:=0) S).2);obtain ⟨p,aw,rfl,ba,bh,_⟩:=hr.shape
   have y:=hid (fun W=>by
    have:=Zcq (.slice none 0 0) [] (ps.length:Int) W (by omega) (by omega) (World.ownsRow_nil _ _ _ _) (by simp);rw [XT,Xz] at this;exact this)
   unfold maxLen at bh;obtain ⟨n,al⟩:=Xn ps.length;have j:=hid al;rw [al] at l R y hl ba ⊢;clear hr al hok J;go_enter func42,ntmps42;go_wp2_with fail;refine l.out.mono ?_;rintro e w1 ⟨rfl,E⟩;have r:=hid E;clear E l;go_wp2_with fail;refine (y.out _).mono ?_;rintro e w2 ⟨vh,rfl,aH,ah⟩
   have d:EncSt w w w2 none vh (.slice none 0 0) (Zb n++Z4 ps 0 0) (ZF 0 (ps.take (32*0))):=by
    have aE:Below w1.heap.size w1 w2:=ah.kep.below (Xc _) (fun k S e=>by cases e);refine ⟨r.out.trans (aE.mono r.out.size),Xx r.out.size aE.size,Xc _,(fun g hg=>by cases hg),?_,World.ownsRow_nil _ _ _ _,fun k S => ?_,(fun k S=>by cases S),(fun k S aW=>by cases aW)⟩
    ·rw [Z4,XI];exact aH
    ·refine ⟨?_,by simp⟩;rcases ah.2 k S with e|e
     ·cases e
     ·exact Xx r.out.size e
   have aa:=hid d;have aU:Hid (ZI 0 (ps.take (32*0)) = -1+1):=hid (by rw [XaY,XaJ];rfl);clear d aH ah y;go_wp2_with fail
   go_loopw [4,5,6,7] (fun vh vb a iv wr=>∃(i I:Nat) (A:Int),Hid (I=32*i)/\I<=32*cnt n/\iv=.int .i64 I/\a=.int .i64 A/\Hid (ZI 0 (ps.take (32*i))=A+1)/\Hid (EncSt w w wr none vh vb (Zb n++Z4 ps 0 i) (ZF 0 (ps.take (32*i))))) (fun _ _ _ iv _=>32*cnt n+1 - (intOf iv).toNat)
   case atStart=>exact ⟨0,0, -1,hid rfl,by omega,rfl,rfl,aU,aa⟩
   case round =>
    obtain ⟨i,I,A,N,hi,rfl,rfl,HA,s⟩:=hrel;clear aU aa
    by_cases aY:I<n
    ·have t1:decide ((I:Int)<(n:Int))=true:=by simp;omega
     obtain ⟨M,hM⟩:=Xn (min n (I+32));have bc:M<=n:=by omega
     obtain ⟨m,hm⟩:∃m,M - I=m+1:=⟨M - I - 1,by omega⟩;have bb:I<M:=by omega
     have f:ps.take M=ps.take (32*(i+1)):=by
      have h1:=N.out;have h2:=j.out
      by_cases bm:n<=I+32
      ·rw [XM (by omega),XM (by omega)]
      ·rw [show M=32*(i+1) by omega]
     obtain ⟨b,off,x0,rfl,aZ,_,_,_,_⟩:=(Zbp.pon R.out).at_ (show I<ps.length by rw [j.out];exact aY);have Z:=s.out.low;have ab:=POn.sub (R.out.below Z) (Xam bb) bc;have am:M - 1<ps.length:=by rw [j.out];omega
     obtain ⟨b',bl,x,D,_,_,ak,_,aX⟩:=(Zbp.pon R.out).at_ am;simp only [Xv,Addr.mk.injEq] at D;obtain ⟨rfl,rfl,_⟩:=D;have t:=bi.out _ am;rw [show M - 1+1=M by omega,f] at t;have ay:=aM.out (32*i);have Y:=aM.out (32*(i+1));have T:=ai.out (32*i) (M - 32*i);rw [HA.out] at T ay;have aT:((ps.drop I).take (M - I)).length=M - I:=by rw [Xi,Xj,j.out];omega
     have aQ:ZaU ((ps.drop I).take (M - I))<=1000000000:=by
      have h1:=ZeB (ps.drop I) (M - I);have h2:=ZvR ps I;omega
     have C:=ZiB _ ((ps.drop I).take (M - I)) A wr ab (by omega) (by rw [N.out];exact T) (by omega) aQ (by omega);have c:=ZrJ ps i M f (by rw [<- N.out];omega);rw [HA.out,<- N.out] at c;obtain ⟨X,hX⟩:=Xn (ZF (A+1) ((ps.drop I).take (M - I)));rw [hX] at C c
     have V:X≠[]:=by
      intro e;have:=ZgW ((ps.drop I).take (M - I)) (A+1) (by rw [N.out];exact T);rw [hX,e,aT] at this;simp at this;omega
     have ae:ZbC ps (i+1)=ZbC ps i+X.length:=by
      unfold ZbC;rw [c,Xd,N.out]
     obtain ⟨z,hz⟩:=Xn (ps[M - 1].1);rw [hz] at t ak;rw [t] at Y;have aA:h1L ps i=z.toNat:=by unfold h1L;rw [t];congr 1;omega
     have ar:h2L ps i=X.length:=by unfold h2L;omega
     have a3:=aV.out (i+1)
     have a6:0<=z:=by
      have h3:(ps.take (32*(i+1))).length>=1:=by rw [<- f,Xi,j.out];omega
      omega
     have aC:=Zc n;have af:=ZdB ps i 0;have bn:i<=n:=by have:=N.out;omega
     have aN:=ao.out (32*i);have az:∀W,Zd 0 W u4 (Zb n++Z4 ps 0 i)->Calls prog _ #[u4,.int .i64 z] W _:=fun W h=>Zcq u4 _ z W a6 (by omega) h (by rw [Xd];omega);have aj:∀W u,Zd 0 W u (Zb n++Z4 ps 0 i++Zb z.toNat)->Calls prog _ #[u,.int .i64 (X.length:Int)] W _:=fun W u h=>Zcq u _ (X.length:Int) W (by omega) (by omega) h (by have:=Zc z.toNat;simp only [Xd];omega)
     have e3:Zb n++Z4 ps 0 i++Zb z.toNat++Zb (X.length:Int).toNat=Zb n++Z4 ps 0 (i+1):=by
      rw [Zha,XL,ZgI,aA,ar,XT];simp only [Xl]
     rw [e3] at aj;have y:=hid az;have a7:=hid aj;have U:=hid C;have au:=hid t;have aK:=hid V;have ac:=hid c;have an:(ZF 0 (ps.take (32*i))).length+X.length<=140737488355328:=by omega
     have ag:=fun W (hW:Below w.heap.size w W)=>(hW.cell (p:=⟨b,off+(M - 1)*2,none⟩) aZ).trans ak;rw [show off+(M - 1)*2=off+I*2+m*2 by omega] at ag;have be:=hid ag;have bk:(if (n:Int)<(I:Int)+32 then (n:Int) else (I:Int)+32)=(M:Int):=by split<;>omega
     have a5:(if (I:Int)+32<(n:Int) then (I:Int)+32 else (n:Int))=(M:Int):=by split<;>omega
     have a4:min (n:Int) ((I:Int)+32)=(M:Int):=by omega
     have i1:(I:Int)<=(M:Int):=by omega
     have i2:(M:Int)<=(aw:Int):=by omega
     have a2:¬aw=I:=by omega
     have i4:((M - I:Nat):Int) - 1=(m:Int):=by omega
     have i5:m<M - I:=by omega
     have bq:=hid hm;have bo:=hid f;have ap:Hid (I+32<=32*cnt n/\I+32=32*(i+1)):=hid (by have:=N.out;unfold cnt;omega);have bs:I<=200000:=by omega
     clear ab T ay Y t C c hX V ae aA ar a3 aC af aN az aj e3 ak aT aQ aX am Z ag hz f hM hm;go_wp2_with fail;refine U.out.mono ?_;rintro e w5 ⟨vx,rfl,ad,aS⟩;have F:=s.out.row aS ad;have bf:=be.out w5 F.low;have L:=hid F;have aO:=hid ad;clear F ad aS U s;obtain ⟨px,cx,rfl,bp,br⟩:=(Zd.brow aO.out).shape;go_wp2_with fail;refine (y.out _ L.out.oh).mono ?_;rintro e w6 ⟨v6,rfl,aB,av⟩;have G:=hid (L.out.growH av aB);clear aB av L;go_wp2_with fail;refine (a7.out _ _ G.out.oh).mono ?_;rintro e w7 ⟨v7,rfl,aF,aI⟩;have o:=hid (G.out.growH aI aF);clear aF aI G;have aL:=hid (Zgs aO.out (fun g hg=>(o.out.blk g hg).2));have a9:=hid (Zd.brow aL.out);have aq:=hid o.out.ob;go_wp2_with (at_builtin;refine Zl rfl _ _ rfl _ (ZF 0 (ps.take (32*i))) rfl aq.out _ X rfl a9.out aK.out an ?_)
     intro v8 w8 q aJ;have O:=(o.out.growB aJ q).forget;rw [<- N.out,<- ac.out] at O;have aR:=hid O;clear q aJ O o;go_wp2_with fail;go_roundw
     case rel=>exact ⟨i+1,I+32,z,hid ap.out.2,ap.out.1,by go_num,rfl,au,aR⟩
     case measure=>simp [intOf];omega
    ·have t1:decide ((I:Int)<(n:Int))=false:=by simp;omega
     have f:ps.take (32*i)=ps:=XM (by rw [j.out,<- N.out];omega);have aD:i=cnt n:=by have:=N.out;unfold cnt at hi ⊢;omega
     rw [f,aD] at s;have d:=s.out;have D:=ao.out ps.length;rw [XC] at D;have af:=ZdB ps (cnt n) 0;have a0:=Zc n;have bt:cnt n<=n:=by unfold cnt;omega
     have a8:=hid (Zd.from d.oh (fun k S=>(d.fh k S).1));have ai:=hid (Zd.brow d.ob);have aG:=hid d.low;have ax:(Zb n++Z4 ps 0 (cnt n)).length+(ZF 0 ps).length<=140737488355328:=by rw [Xd];omega
     have a1:=d.low.size;have bd:Hid (ZV ps=Zb n++(Z4 ps 0 (cnt n)++ZF 0 ps)):=hid (by unfold ZV;rw [j.out,Xl]);clear d D af a0 s f HA aD;go_wp2_with (at_builtin;refine Zg rfl _ _ rfl w.heap.size _ (Zb n++Z4 ps 0 (cnt n)) rfl a8.out _ (ZF 0 ps) rfl ai.out ax a1 ?_)
     intro v8 w8 q aP;rw [<- bd.out] at q;have bj:=hid q;have bg:=hid (aG.out.trans aP);clear q aP;go_wp2_with fail;go_ret2;exact ⟨_,rfl,bj.out,bg.out⟩
 | false =>
   rw [hok] at l;rw [Xa (by simp)];clear hok hr;go_enter func42,ntmps42;go_wp2_with fail;refine l.out.mono ?_;rintro e w1 ⟨rfl,E⟩;have r:=hid E;clear E l;go_wp2_with fail;go_ret2;exact ⟨_,rfl,World.ownsRow_nil _ _ _ _,r.out⟩
