import Derived.Test.YtmomfobdpfajbaaGreatZA15
import Derived.Test.YtmomfobdpfajbaaGreatZA12
import Derived.Deep.AppendLies
set_option maxRecDepth 100000
set_option maxHeartbeats 0
set_option linter.unusedVariables false
set_option linter.unusedSimpArgs false
namespace Go.Proofs.YtmomfobdpfajbaaGreat
open Tryz
namespace PW
open RowKit MM PM VM
variable {b c w w':World} {u v:Value} {l:Xu} {B k:Nat} {qs:List Int}
def Grown (w w':World) (v v':Value):Prop:=w.grownBy w' v.ownBlock/\∀k,v'.ownBlock=some k->v.ownBlock=some k\/w.heap.size<=k
theorem grownBy_refl (w:World) (r:Option Nat):w.grownBy w r:=⟨rfl,rfl,rfl,Xa _,fun _ _ _=>rfl⟩
theorem Grown.refl (w:World) (v:Value):Grown w w v v:=⟨grownBy_refl _ _,fun k h=>.inl h⟩
theorem Grown.trans {a:World} {x:Value} (h:Grown a b u v) (k:Grown b c v x):Grown a c u x:=by
 obtain ⟨d,j⟩:=h;obtain ⟨g,m⟩:=k;refine ⟨⟨g.os.trans d.os,g.tape.trans d.tape,g.output.trans d.output,Xy d.size g.size,fun i hi f => ?_⟩,fun i hi => ?_⟩
 ·rw [g.block i (XJ hi d.size) (fun e => ?_),d.block i hi f];rcases j i e.symm with h|h
  ·exact f h.symm
  ·omega
 ·rcases m i hi with h|h
  ·exact j i h
  ·exact .inr (Xy d.size h)
theorem Grown.kep {v':Value} (h:Grown w w' v v'):Kep (fun b=>v.ownBlock≠some b) w w':=ZO h.1 fun k d a=>a d
theorem Grown.of_below {a:World} (h:Below a.heap.size a b) (k:Grown b c u v) (hu:∀i,u.ownBlock=some i->i<a.heap.size):Grown a c u v :=
 ⟨⟨k.1.os.trans h.os,k.1.tape.trans h.tape,k.1.output.trans h.output,Xy h.size k.1.size,fun i hi d=>by rw [k.1.block i (XJ hi h.size) d,h.block i hi]⟩,fun i hi=>by
   rcases k.2 i hi with e|e
   ·exact .inl e
   ·exact .inr (Xy h.size e)⟩
theorem Zaw (h:Zd B w v l):∀i,v.ownBlock=some i->i<w.heap.size:=fun i hi=>(World.ownsRow.lt h i hi).2
theorem Zd.zero (h:Zd B w v l):Zd 0 w v l:=Zd.weaken h (XX _)
theorem Zd.from (h:Zd 0 w v l) (i:∀k,v.ownBlock=some k->B<=k):Zd B w v l:=by
 refine ⟨h.1,?_⟩;rcases h.2 with f|⟨g,d,a,e,hg,rest⟩
 ·exact .inl f
 ·exact .inr ⟨g,d,a,e,i g (by rw [e];rfl),rest⟩
theorem Zd.kepOwn {S:Nat->Prop} (h:Zd B w v l) (i:Kep S w w') (j:∀k,v.ownBlock=some k->S k):Zd B w' v l:=by
 refine ⟨h.1,?_⟩;rcases h.2 with m|⟨g,d,a,e,n,f,rest⟩
 ·exact .inl m
 ·exact .inr ⟨g,d,a,e,n,by rw [i.block g (Xq.1 f).1 (j g (by rw [e];rfl))];exact f,rest⟩
def Zlp (l:Xu) (v:Value) (w:World) (e:Ending) (w':World):Prop:=∃v',e=.returned v'/\Zd 0 w' v' l/\Grown w w' v v'
theorem Zn {ops:Array Oper} {rest:List Oper} {o:Oper} {a:Act} {Q:Exit->Act->World->Prop} (n:o.guard=none) (s x:Operand)
  (E:o.op=.call { callee:=.builtin .append,args:=#[s,x],argTypes:=#[23,23] }) (v:Value) (l:Xu) (hs:a.eval s=v) (f:Zd 0 w v l)
  (src:Value) (m:Xu) (G:a.eval x=src) (D:Zv w src m) (H:m≠[]) (A:l.length+m.length<=140737488355328)
  (h:∀v' w',Zd 0 w' v' (l++m)->Grown w w' v v'->wpList prog ops Q rest (a.put o.dst v') w'):wpList prog ops Q (o::rest) a w:=by
 obtain ⟨i0,hi,t,r,z⟩:=info_parts ZaI;have h0:=Xaa.2 H;obtain ⟨p,y,rfl,_,_,h3,i⟩:=D;rcases i with i|⟨b,off,rfl,_,i⟩
 ·have:=Zi m;rw [i] at this;simp at this;omega
 ·refine wpList_append_lies w n s x 23 E 0 5 i0 (.int .u8 0) 1 1 underlying23 hi t r z rfl (by decide) v l.length (Lib.byteCells l) hs f ⟨b,off,none⟩ (Lib.byteCells m).length y (Lib.byteCells m) G (by simp)
   (fun j u F=>by rw [ZZ];exact i j u F) (byteCells_one m) (by rw [Zi];omega) (by rw [Zi];unfold maxLen;omega) (by rw [Zi];omega) (XX _) w.heap.size rfl ?_
  intro g cap' w' d e q _;refine h _ w' ?_ ⟨e,fun k C => ?_⟩
  ·unfold Zd;rw [Xd,byteCells_append];rw [Zi] at d ⊢;exact d
  ·simp only [Value.ownBlock,Xx] at C;subst C;rcases q with h|h
   ·exact .inl h
   ·exact .inr (Nat.le_of_eq h.symm)
theorem Zaz (n:Nat):Zb n≠[]:=by
 intro h;have:=(Zc n).1;rw [h] at this;simp at this
theorem Za5 (v:Value) (l:Xu) (n:Int) (w:World) (F:0<=n) (h1:n<=9223372036854775807) (d:Zd 0 w v l) (C:l.length<=1000000000000) :
  Calls prog 191 #[v,.int .i64 n] w (Zlp (l++Zb n.toNat) v w):=by
 obtain ⟨m,rfl⟩:=Xay F;rw [XY];have a:=VP.Zdd (.slice none 0 0) [] m w (by omega) (Zv.nil_ w) (by simp);rw [XE] at a;have y:=Zc m;have f:=Zaz m;obtain ⟨M,A⟩:=Xn (Zb m);rw [A] at a y f ⊢;have E:=Y4 a;have D:=Y4 d;have x:=Y4 f;have hw:IntKind.u64.wrap (m:Int)=(m:Int):=by rw [IntKind.wrap_u64];omega
 obtain ⟨p,G,rfl,_⟩:=(Zd.brow d).shape;clear a d A f;go_enter func191,ntmps191;go_wp2_with fail;refine E.z.mono ?_;rintro e w1 ⟨v1,rfl,g,h⟩;have o:=Y4 (D.z.keep h);have s:=Y4 (Zd.brow g);have t:=Y4 h;have z:=Y4 (Zaw D.z);obtain ⟨p1,c1,rfl,_⟩:=(Zd.brow g).shape;clear g h E;go_wp2_with (at_builtin;refine Zn rfl _ _ rfl _ l rfl o.z _ M rfl s.z x.z (by omega) ?_)
 intro v2 w2 i j;have r:=Y4 i;have q:=Y4 (j.of_below t.z z.z);clear i j;go_wp2_with fail;go_ret;exact ⟨_,rfl,r.z,q.z⟩
theorem Zcm (v:Value) (l:Xu) (n:Int) (w:World) (F:0<=n) (h1:n<=9223372036854775807) (d:Zd 0 w v l) (C:l.length<=1000000000000) :
  Calls prog 90 #[v,.int .i64 n] w (Zlp (l++Zb n.toNat) v w):=by
 obtain ⟨m,rfl⟩:=Xay F;rw [XY];have a:=VP.ZcW m w (by omega);have y:=Zc m;have f:=Zaz m;obtain ⟨M,A⟩:=Xn (Zb m);rw [A] at a y f ⊢;have E:=Y4 a;have D:=Y4 d;have x:=Y4 f;have hw:IntKind.u64.wrap (m:Int)=(m:Int):=by rw [IntKind.wrap_u64];omega
 obtain ⟨p,G,rfl,_⟩:=(Zd.brow d).shape;clear a d A f;go_enter func90,ntmps90;go_wp2_with fail;refine E.z.mono ?_;rintro e w1 ⟨v1,rfl,g,h⟩;have o:=Y4 (D.z.keep h);have s:=Y4 (Zd.brow g);have t:=Y4 h;have z:=Y4 (Zaw D.z);obtain ⟨p1,c1,rfl,_⟩:=(Zd.brow g).shape;clear g h E;go_wp2_with (at_builtin;refine Zn rfl _ _ rfl _ l rfl o.z _ M rfl s.z x.z (by omega) ?_)
 intro v2 w2 i j;have r:=Y4 i;have q:=Y4 (j.of_below t.z z.z);clear i j;go_wp2_with fail;go_ret;exact ⟨_,rfl,r.z,q.z⟩
theorem Zod (a:k<qs.length):ZaB 0 (qs.take (k+1))=ZaB 0 (qs.take k)++Zb (qs[k] - ZaR 0 (qs.take k)).toNat/\ZaR 0 (qs.take (k+1))=qs[k]+1:=by
 rw [XG a,Ziw,Zgf];exact ⟨rfl,rfl⟩
theorem ZoF (h:ZcM 1048576 qs=true) (i:k<qs.length):0<=ZaR 0 (qs.take k)/\ZaR 0 (qs.take k)<=qs[k]/\qs[k]<1048576:=by
 have e:qs.take (k+1)=qs.take k++[qs[k]]:=XG i
 have f:Za1 1048576 (0 - 1) (qs.take (k+1))=true:=by
  have:∀(n:Nat) (d:List Int) (a:Int),Za1 1048576 a d=true->Za1 1048576 a (d.take n)=true:=by
   intro n
   induction n with
   | zero=>intro d a _;rfl
   | succ n ih =>
     intro d a g;cases d with
     | nil=>rfl
     | cons z d =>
       rw [Za1,Xw] at g;rw [XaC,Za1,Xw];exact ⟨g.1,ih d z g.2⟩
  exact this _ _ _ h
 rw [e,Zgt,Xw,Xw,Xg,Xg] at f;have j:=(Zhb 1048576 (qs.take k) 0 (by omega) f.1).1;exact ⟨j,f.2.1,f.2.2⟩
theorem ZpY (v:Value) (l:Xu) (z:Int) (x:Value) (qs:List Int) (n:Int) (w:World) (hn:0<=n) (an:okP n (z,qs)) (f:Zd 0 w v l) (hx:IOn (fun b=>v.ownBlock≠some b) w x qs) (aD:l.length+10*qs.length<=900000000000) :
  Calls prog 190 #[v,.agg #[.int .i64 z,x],.int .i64 n] w (Zlp (l++ZeW n (z,qs)) v w):=by
 obtain ⟨ao,ax,_,d⟩:=an;dsimp only at ao ax d;have aH:=ZfT d;have ad:ZeW n (z,qs)=Zb (z - n).toNat++(Zb qs.length++ZaB 0 (qs.take qs.length)):=by rw [XB];rfl
 rw [ad];obtain ⟨I,H,rfl,aG,aC,_⟩:=hx.shape;unfold maxLen at aC;have s:Below w.heap.size w (w.alloc (.cells #[.int .i64 z,.slice I qs.length H] 125)):=(Below.refl _ _).alloc (Xa _) _;have E:(w.alloc (.cells #[.int .i64 z,.slice I qs.length H] 125)).heap[w.heap.size]? = some (.cells #[.int .i64 z,.slice I qs.length H] 125):=heap_alloc_new _ _;have U:v.ownBlock≠some w.heap.size:=fun e=>by have:=Zaw f _ e;omega
 have HX:=Y4 (hx.keep (Za (fun b=>v.ownBlock≠some b) s) fun _ _ h=>h);have HO:=Y4 (Zd.keep f s);have aw:=Y4 (Zaw f);have aE:=Y4 s;have O:w.heap.size<(w.alloc (.cells #[.int .i64 z,.slice I qs.length H] 125)).heap.size:=by simp
 have au:=Zc (z - n).toNat;have ai:=Zc qs.length;have aj:=Y4 (fun k=>(ZfJ (qs.take k) 0).2);have aA:=Y4 (fun k (hk:k<qs.length)=>Zod hk);have am:=Y4 (fun k (hk:k<qs.length)=>ZoF d hk);obtain ⟨nq,g⟩:=Xn qs.length;obtain ⟨M,j⟩:=Xn (w.alloc (.cells #[.int .i64 z,.slice I qs.length H] 125))
 have N:Y5 (∀W u,Grown M W v u->W.cell? ⟨w.heap.size,0,none⟩=some (.int .i64 z)/\W.cell? ⟨w.heap.size,1,none⟩=some (.slice I nq H)):=Y4 (fun W u hg=>by
  rw [j] at E O;have:=(hg.kep.block w.heap.size O U).trans E;rw [<- g];exact ⟨by rw [cell_of_row W _ 0 _ _ _ this];rfl,by rw [cell_of_row W _ 1 _ _ _ this];rfl⟩)
 have f0:=(N.z M v (Grown.refl _ _)).1;have f1:=(N.z M v (Grown.refl _ _)).2;have K1:=Y4 (Za5 v l (z - n) M (by omega) (by omega) (by rw [<- j];exact HO.z) (by omega))
 have K2:Y5 (∀W u L,Zd 0 W u L->L.length<=1000000000000->Calls prog 191 #[u,.int .i64 nq] W (Zlp (L++Zb qs.length) u W)):=Y4 (fun W u L h hl=>by
  have:=Za5 u L (nq:Int) W (by omega) (by omega) h hl;rw [XY,<- g] at this;rw [<- g];exact this)
 have T:=Y4 g;have av:=Y4 j;rw [g] at j;rw [g] at HX;obtain ⟨J,R⟩:=Xn (Zb (z - n).toNat);obtain ⟨P2,C⟩:=Xn (Zb qs.length);rw [R] at K1 au ⊢;rw [C] at ai ⊢;simp only [C] at K2;have t:=Y4 j;clear f hx s E d ad R C U av;go_enter func190,ntmps190;go_wp2_with fail;refine K1.z.mono ?_;rintro e W2 ⟨v2,rfl,ae,F⟩;obtain ⟨f2,f3⟩:=N.z W2 v2 F;have ag:=Y4 (K2.z W2 v2 _ ae (by rw [Xd];omega));have S:=Y4 F;clear ae F K1 K2;go_wp2_with fail;refine ag.z.mono ?_;rintro e W3 ⟨v3,rfl,X,ah⟩;have m:=S.z.trans ah;obtain ⟨f4,f5⟩:=N.z W3 v3 m;have af:Y5 (Zd 0 W3 v3 (l++(J++(P2++ZaB 0 (qs.take 0))))):=Y4 (by simp only [XaK,ZaB,XH,<- Xk];exact X);have ab:=Y4 m;have Z:Y5 (ZaR 0 (qs.take 0)=0):=Y4 rfl;clear X ah m S ag;go_wp2_with fail
 go_loopw [0,7,24] (fun u a i wr=>∃(k:Nat) (A:Int),k<=nq/\i=.int .i64 k/\a=.int .i64 A/\Y5 (ZaR 0 (qs.take k)=A)/\Y5 (Zd 0 wr u (l++(J++(P2++ZaB 0 (qs.take k)))))/\Y5 (Grown M wr v u)) (fun _ _ i _=>nq - (intOf i).toNat)
 case atStart=>exact ⟨0,0,by omega,rfl,rfl,Z,af,ab⟩
 case round =>
  obtain ⟨k,A,hk,rfl,rfl,G,HOk,r⟩:=hrel;clear af ab Z f0 f1 f2 f3 f4 f5;obtain ⟨f0,f1⟩:=N.z wr _ r.z
  by_cases ay:k<nq
  ·have t1:decide ((k:Int)<(nq:Int))=true:=by simp;omega
   have p:k<qs.length:=by rw [T.z];exact ay
   obtain ⟨b,off,rfl,aF,_,D⟩:=(HX.z.keep (by rw [t.z];exact r.z.kep) fun _ _ h=>h:IOn (fun b=>v.ownBlock≠some b) wr _ qs).at_ p;obtain ⟨q,o⟩:=aA.z k p;obtain ⟨aB,Y,ar⟩:=am.z k p;have ap:=aj.z k
   have V:(l++(J++(P2++ZaB 0 (qs.take k)))).length<=1000000000000:=by
    have:(qs.take k).length<=qs.length:=XaU _ _;simp only [Xd];omega
   rw [G.z] at q aB Y;obtain ⟨y,hy⟩:=Xn (qs[k]);rw [hy] at D q o Y ar;have HK:=Y4 (Za5 _ _ (y - A) wr (by omega) (by omega) HOk.z V);have e1:l++(J++(P2++ZaB 0 (qs.take k)))++Zb (y - A).toNat=l++(J++(P2++ZaB 0 (qs.take (k+1)))):=by rw [q];simp only [Xk]
   rw [e1] at HK;have aq:=Y4 o;clear q o ap V e1 hy G;go_wp2_with fail;refine HK.z.mono ?_;rintro e W4 ⟨v4,rfl,aa,ac⟩;have al:=Y4 aa;have ak:=Y4 (r.z.trans ac);clear aa ac HK;go_wp2_with fail;go_roundw
   case rel=>exact ⟨k+1,y+1,by omega,by go_num,rfl,aq,al,ak⟩
   case measure=>simp [intOf];omega
  ·obtain rfl:k=nq:=by omega
   have t1:decide ((k:Int)<(k:Int))=false:=by simp
   have ho:=HOk.z;rw [<- T.z] at ho;have az:=Y4 ho;clear G ho HOk;go_wp2_with fail;go_ret;exact ⟨_,rfl,az.z,r.z.of_below (by rw [<- t.z];exact (Below.refl _ _).alloc (Xa _) _) aw.z⟩
end PW
namespace PW
open RowKit MM PM VM
variable {w W wr w':World} {gb:Option Nat} {vh vb:Value} {H Bd:Xu} {k:Nat}
def encR (ps:List Zk):Xu×Int:=if isL ps=true then (ZY ps,0) else ([],80)
def ZtH (r:Xu×Int) (w:World) (e:Ending) (w':World):Prop:=∃v',e=.returned (.tuple #[v',.int .i64 r.2])/\Zd w.heap.size w' v' r.1/\Below w.heap.size w w'
structure EncSt (w W wr:World) (gb:Option Nat) (vh vb:Value) (H Bd:Xu):Prop where
 low:Below w.heap.size w wr
 gsz:W.heap.size<=wr.heap.size
 wsz:w.heap.size<=W.heap.size
 blk:∀g,gb=some g->g<W.heap.size/\wr.heap[g]? = W.heap[g]?
 oh:Zd 0 wr vh H
 ob:Zd 0 wr vb Bd
 fh:∀k,vh.ownBlock=some k->w.heap.size<=k/\gb≠some k
 fb:∀k,vb.ownBlock=some k->w.heap.size<=k/\gb≠some k
 ap:∀k,vh.ownBlock=some k->vb.ownBlock≠some k
theorem EncSt.swap (h:EncSt w W wr gb vh vb H Bd):EncSt w W wr gb vb vh Bd H :=
 ⟨h.low,h.gsz,h.wsz,h.blk,h.ob,h.oh,h.fb,h.fh,fun k b a=>h.ap k a b⟩
theorem EncSt.below (h:EncSt w W wr gb vh vb H Bd) (a:Below wr.heap.size wr w'):EncSt w W w' gb vh vb H Bd :=
 ⟨h.low.trans (a.mono h.low.size),Xy h.gsz a.size,h.wsz,fun g b=>⟨(h.blk g b).1,(a.block g (XJ (h.blk g b).1 h.gsz)).trans (h.blk g b).2⟩,Zd.keep h.oh a,Zd.keep h.ob a,h.fh,h.fb,h.ap⟩
theorem EncSt.growB {c:Value} {f:Xu} (h:EncSt w W wr gb vh vb H Bd) (d:Grown wr w' vb c) (j:Zd 0 w' c f):EncSt w W w' gb vh c H f:=by
 have hs:=d.kep.size;refine ⟨h.low.trans (d.kep.below h.low.size fun k a e=>by have:=(h.fb k e).1;omega),Xy h.gsz hs,h.wsz,fun g b => ?_,Zd.kepOwn h.oh d.kep (fun k a e=>h.ap k a e),j,h.fh,fun k a => ?_,fun k a i => ?_⟩
 ·have m:=(h.blk g b).1;have l:=h.gsz;exact ⟨m,(d.kep.block g (by omega) (fun e=>(h.fb g e).2 b)).trans (h.blk g b).2⟩
 ·have l:=h.gsz;have h3:=h.wsz;rcases d.2 k a with e|e
  ·exact h.fb k e
  ·exact ⟨by omega,fun n=>by have:=(h.blk k n).1;omega⟩
 ·rcases d.2 k i with e|e
  ·exact h.ap k a e
  ·have:=Zaw h.oh k a;omega
theorem EncSt.growH {a:Value} {b:Xu} (h:EncSt w W wr gb vh vb H Bd) (d:Grown wr w' vh a) (c:Zd 0 w' a b):EncSt w W w' gb a vb b Bd :=
 (h.swap.growB d c).swap
theorem ZuN {ps:List Zk} (a:k<ps.length):ZE 0 (ps.take (k+1))=ZE 0 (ps.take k)++ZeW (ZI 0 (ps.take k)) ps[k]/\ZI 0 (ps.take (k+1))=ps[k].1+1:=by
 rw [XG a,ZbN,Zdb];exact ⟨by rw [ZE,ZE,XH],rfl⟩
theorem ZBp {ps:List Zk} (h:okL 0 ps) (a:k<ps.length):0<=ZI 0 (ps.take k)/\okP (ZI 0 (ps.take k)) ps[k]:=by
 refine ⟨Zjk (ZfR h k),?_⟩;have:=Zhe h k;rw [X7 a,okL] at this;exact this.1
theorem Zu6 (ps:List Zk) (i:Nat):Zby ps i<=Zby ps (i+1):=by
 unfold Zby;have e:ps.take (32*i)=(ps.take (32*(i+1))).take (32*i):=by rw [List.take_take,Xan (by omega)]
 rw [e]
 conv=>rhs;rw [<- X8 (32*i) (ps.take (32*(i+1))),ZbN,Xd]
 omega
theorem ZpI:∀(ps:List Zk) (k:Nat) (h:k<ps.length),ps[k].2.length<=ZaU ps
 | p::ps,0,_=>by rw [ZaU];simp
 | p::ps,k+1,h=>by
   have:=ZpI ps k (by simpa using h);rw [ZaU];simp only [Xby];omega
theorem Ze5 (v:Value) (ps:List Zk) (w:World) (hr:Za7 w v ps) (hl:ps.length<=100000) (hs:ZaU ps<=1000000000):Calls prog 129 #[v] w (ZtH (encR ps) w):=by
 have s:=Y4 (Zer v ps w hr (by omega));unfold encR
 by_cases J:isL ps=true
 ·rw [Xe J] at s ⊢;have N:=(Zed ps).1 J;have bk:=Y4 (fun k (E:k<ps.length)=>ZuN E);have a5:=Y4 (fun k (E:k<ps.length)=>ZBp N E);have a4:=Y4 hr;have br:=Y4 (fun k (E:k<ps.length)=>ZpI ps k E);have aA:=Y4 (fun k=>show Zby ps k<=20000000000 by have:=ZtV ps k;omega)
  have aw:=Y4 (fun k=>show (ZE 0 (ps.take k)).length<=20000000000 by
   have h1:=Zeq (ps.take k) 0;have h2:=ZeB ps k;have h3:(ps.take k).length<=ps.length:=XaU _ _;omega)
  have bs:=Y4 (fun k=>ZbH (ps.take k) 0 (ZfR N k));obtain ⟨p,ao,rfl,az,aO,_⟩:=hr.shape
  have hp:0<ps.length->∃b off,p=some ⟨b,off,none⟩:=fun h=>by
   obtain ⟨b,off,x,hp,_⟩:=hr.at_ h;exact ⟨b,off,hp⟩
  obtain ⟨b,off,ak⟩:∃b off,0<ps.length->p=some ⟨b,off,none⟩:=by
   by_cases h:0<ps.length
   ·obtain ⟨b,off,e⟩:=hp h;exact ⟨b,off,fun _=>e⟩
   ·exact ⟨0,0,fun h2=>absurd h2 h⟩
  have aK:=Y4 ak;have C:=Y4 (fun W=>VP.Zdd (.slice none 0 0) [] ps.length W (by omega) (Zv.nil_ W) (by simp));have D:=Y4 (fun W=>ZlK b off ps.length ao p W ak az aO (by omega));obtain ⟨n,ap⟩:=Xn ps.length;have T:=Y4 ap;unfold maxLen at aO;have hw:IntKind.u64.wrap (n:Int)=(n:Int):=by rw [IntKind.wrap_u64];omega
  rw [ap] at s a4 C D hl az aK ⊢;simp only [XE] at C;clear hr hp ak ap J N;go_enter func129,ntmps129;go_wp2_with fail;refine s.z.mono ?_;rintro e w1 ⟨rfl,M⟩;have ab:=Y4 M;clear M s;go_wp2_with fail;refine (C.z _).mono ?_;rintro e w2 ⟨vh,rfl,a0,af⟩;have aT:=Y4 (grow ab.z af);have au:=Y4 a0;have aU:=ab.z.size;have a2:=af.size;clear a0 af C;go_wp2_with fail;refine (D.z _).mono ?_;rintro e w3 ⟨vk,rfl,y,aa⟩;obtain ⟨pk,ck,rfl,bp,aS⟩:=y.shape;rw [ZjN] at bp y ⊢
  have d:EncSt w w3 w3 (Value.slice pk (cnt n) ck).ownBlock vh (.slice none 0 0) (Zb n++Z7 ps 0 0) (ZE 0 (ps.take (32*0))):=by
   refine ⟨aT.z.trans (aa.mono (by have:=aT.z.size;omega)),Xa _,by have:=aa.size;omega,fun g hg => ?_,?_,World.ownsRow_nil _ _ _ _,fun k E => ?_,(fun k E=>by cases E),(fun k E aS=>by cases aS)⟩
   ·exact ⟨(World.ownsRow.lt y g hg).2,rfl⟩
   ·rw [Z7,XH];exact Zd.zero (Zd.keep au.z aa)
   ·have h1:=(World.ownsRow.lt au.z k E);exact ⟨by omega,fun bh=>by have:=(World.ownsRow.lt y k bh).1;omega⟩
  have ad:=Y4 d;have a9:=Y4 y;have aJ:Y5 (ZI 0 (ps.take (32*0))=0):=Y4 (by rw [XaY,XaK];rfl);clear d y aa au D aU a2;go_wp2_with fail
  go_loopw [5,6,7,25] (fun vh vb a iv wr=>∃(i:Nat) (A:Int),i<=cnt n/\iv=.int .i64 i/\a=.int .i64 A/\Y5 (ZI 0 (ps.take (32*i))=A)/\Y5 (EncSt w w3 wr (Value.slice pk (cnt n) ck).ownBlock vh vb (Zb n++Z7 ps 0 i) (ZE 0 (ps.take (32*i))))) (fun _ _ _ iv _=>cnt n - (intOf iv).toNat)
  case atStart=>exact ⟨0,0,by omega,rfl,rfl,aJ,ad⟩
  case round =>
   obtain ⟨i,A,hi,rfl,rfl,G,f⟩:=hrel;clear aJ ad
   by_cases aq:i<cnt n
   ·have t1:decide ((i:Int)<(cnt n:Int))=true:=by simp;omega
    have bf:32*i<n:=by unfold cnt at aq;omega
    obtain ⟨g,rfl,bE,bA,S,_⟩:=a9.z.at_ (Zp5 b off n ao (cnt n) i aq);have q:=(World.cell?_of_block (a:=⟨g,i,none⟩) (f.z.blk g rfl).2).trans S;have a6:=Y4 (aK.z (by omega));unfold ZuJ at q;obtain ⟨m,hm⟩:=Xn (min 32 (n - 32*i));obtain ⟨cc,aW⟩:=Xn (ao - 32*i);rw [hm,aW] at q;have bD:0<m:=by omega
    have bF:32*i+m<=n:=by omega
    have bK:m<=cc:=by omega
    have X:=(Zd.brow f.z.ob).shape;obtain ⟨pb,cb,rfl,_,_⟩:=X;have O:Y5 (EncSt w w3 wr (Value.slice (some ⟨g,0,none⟩) (cnt n) ck).ownBlock u5 (.slice pb (ZE 0 (ps.take (32*i))).length cb) (Zb n++Z7 ps 0 i) (ZE 0 (ps.take (32*i+0)))):=Y4 (by rw [Xad];exact f.z);have aH:Y5 (ZI 0 (ps.take (32*i+0))=A):=Y4 (by rw [Xad];exact G.z);obtain ⟨S0,Y⟩:=Xn ((ZE 0 (ps.take (32*i))).length);rw [Y] at O;have bm:=Y4 Y;have a8:=Y4 hm;have bC:=Y4 bf;rw [Y];clear f G S Y hm aW;go_wp2_with fail
    go_loopw [6,7,33] (fun vb a jv wr=>∃(j:Nat) (A:Int),j<=m/\jv=.int .i64 j/\a=.int .i64 A/\Y5 (ZI 0 (ps.take (32*i+j))=A)/\Y5 (EncSt w w3 wr (Value.slice (some ⟨g,0,none⟩) (cnt n) ck).ownBlock u5 vb (Zb n++Z7 ps 0 i) (ZE 0 (ps.take (32*i+j))))) (fun _ _ jv _=>m - (intOf jv).toNat)
    case atStart=>exact ⟨0,A,by omega,rfl,rfl,aH,O⟩
    case round =>
     obtain ⟨j,V,hj,rfl,rfl,G,f⟩:=hrel;clear aH O q
     by_cases bG:j<m
     ·have t2:decide ((j:Int)<(m:Int))=true:=by simp;omega
      have L:32*i+j<ps.length:=by rw [T.z];omega
      obtain ⟨b',bz,x,l,X,_,a3,an,hx⟩:=(Za7.pon a4.z).at_ L;rw [a6.z] at l;simp only [Xx,Addr.mk.injEq] at l;obtain ⟨rfl,rfl,_⟩:=l;have B:=bk.z _ L;have o:=a5.z _ L;have av:=br.z _ L;have l:=aw.z (32*i+j);have low:=f.z.low;have I:=(low.cell (p:=⟨b,off+(32*i+j)*2,none⟩) X).trans a3;have aX:=(low.cell (p:=⟨b,off+(32*i+j)*2+1,none⟩) X).trans an;rw [show off+(32*i+j)*2=off+64*i+j*2 by omega] at I aX;rw [G.z] at B o;obtain ⟨⟨z,qs⟩,hz⟩:∃z,ps[32*i+j]=z:=⟨_,rfl⟩;rw [hz] at I hx B o av;dsimp only at I hx B o av;have ax:Below wr.heap.size wr (wr.alloc (.cells #[.int .i64 z,x] 125)):=(Below.refl _ _).alloc (Xa _) _;have R:=f.z.below ax;have aV:IOn (fun c=>u6.ownBlock≠some c) (wr.alloc (.cells #[.int .i64 z,x] 125)) x qs:=hx.keep (Za _ (low.trans (ax.mono low.size))) (fun c hc an e=>by have:=(f.z.fb c e).1;omega);have bl:=o.2.1;have a7:=o.2.2.1;dsimp only at bl a7;have r:=ZpY u6 (ZE 0 (ps.take (32*i+j))) z x qs V _ o.1 o.2 R.ob aV (by omega);rw [<- B.1] at r;have aN:=Y4 r;have ae:=Y4 R;have bg:=Y4 B.2;have bt:=o.1;have bq:Y5 (u6.ownBlock≠some wr.heap.size):=Y4 (fun e=>by have:=Zaw f.z.ob _ e;omega);have aC:Y5 ((wr.alloc (.cells #[.int .i64 z,x] 125)).heap[wr.heap.size]? = some (.cells #[.int .i64 z,x] 125)):=Y4 (heap_alloc_new _ _);obtain ⟨px,cx,rfl,_⟩:=hx.shape;generalize qs.length=nx at *;clear B o av l low a3 an hx aV ax R r hz L f G;go_wp2_with fail;refine aN.z.mono ?_;rintro e w5 ⟨v5,rfl,aP,ai⟩;have aD:=Y4 (ae.z.growB ai aP);have ay:=(ai.kep.block wr.heap.size (by simp) bq.z).trans aC.z;have f0:w5.cell? ⟨wr.heap.size,0,none⟩=some (.int .i64 z):=by rw [cell_of_row w5 _ 0 _ _ _ ay];rfl
      clear ai aP ay ae aN aC;go_wp2_with fail;go_roundw
      case rel=>exact ⟨j+1,z+1,by omega,by go_num,rfl,by rw [<- Xat];exact bg,by rw [<- Xat];exact aD⟩
      case measure=>simp [intOf];omega
     ·obtain rfl:j=m:=by omega
      have t2:decide ((j:Int)<(j:Int))=false:=by simp
      have U:ps.take (32*i+j)=ps.take (32*(i+1)):=by
       have h1:=a8.z;have h2:=T.z
       by_cases bB:32<=n - 32*i
       ·rw [show 32*i+j=32*(i+1) by omega]
       ·rw [XO (by omega),XO (by omega)]
      rw [U] at G f;have d:=f.z;have ar:=bs.z (32*(i+1));have l:=aw.z (32*(i+1));have aB:=Zu6 ps i;have bx:=aA.z (i+1);have bw:=aA.z i
      have bJ:1<=V:=by
       have h3:(ps.take (32*(i+1))).length>=1:=by rw [Xi,T.z];omega
       rw [G.z] at ar;omega
      have aG:h1L ps i=(V - 1).toNat:=by unfold h1L;rw [G.z]
      have bu:V<=65536:=by rw [G.z] at ar;omega
      have e2:(ZE 0 (ps.take (32*(i+1)))).length=Zby ps (i+1):=rfl;have e1:S0=Zby ps i:=bm.z.symm;have al:=ZdE ps i 0;have aj:=Zc n;have bH:i<=n:=by unfold cnt at aq;omega
      have aQ:∀W,Zd 0 W u5 (Zb n++Z7 ps 0 i)->Calls prog _ #[u5,.int .i64 (V - 1)] W _:=fun W h=>Za5 u5 _ (V - 1) W (by omega) (by omega) h (by rw [Xd];omega);have am:∀W u,Zd 0 W u (Zb n++Z7 ps 0 i++Zb (V - 1).toNat)->Calls prog _ #[u,.int .i64 ((Zby ps (i+1):Int) - (Zby ps i:Int))] W _:=fun W u h=>Za5 u _ ((Zby ps (i+1):Int) - (Zby ps i:Int)) W (by omega) (by omega) h (by have:=Zc (V - 1).toNat;simp only [Xd];omega)
      have e3:Zb n++Z7 ps 0 i++Zb (V - 1).toNat++Zb ((Zby ps (i+1):Int) - (Zby ps i:Int)).toNat=Zb n++Z7 ps 0 (i+1):=by
       rw [Zha,XL,ZgE,aG,h2L,show ((Zby ps (i+1):Int) - (Zby ps i:Int)).toNat=Zby ps (i+1) - Zby ps i by omega];simp only [Xk]
      rw [e3] at am;have C:=Y4 aQ;have D:=Y4 am;obtain ⟨pq,cq,rfl,ac,aL⟩:=(Zd.brow d.ob).shape;rw [e2] at d ac ⊢;rw [e1];have t:=Y4 d;have bi:Y5 (Zby ps (i+1)=(ZE 0 (ps.take (32*(i+1)))).length):=Y4 rfl;obtain ⟨E1,Z⟩:=Xn (Zby ps (i+1));obtain ⟨E0,ah⟩:=Xn (Zby ps i);rw [Z] at t bi aB ⊢;rw [ah] at aB ⊢;simp only [Z,ah] at D;rw [Z] at e2;have bv:E1<=100000000000:=by omega
      clear d ar l al aj aQ am e1 e2 e3 U aG f Z ah ac;go_wp2_with fail;refine (C.z _ t.z.oh).mono ?_;rintro e w6 ⟨v6,rfl,aR,aF⟩;have F:=Y4 (t.z.growH aF aR);clear aR aF t;go_wp2_with fail;refine (D.z _ _ F.z.oh).mono ?_;rintro e w7 ⟨v7,rfl,aZ,a1⟩;have aE:=Y4 (F.z.growH a1 aZ);clear aZ a1 F;go_wp2_with fail;go_roundw
      case rel=>exact ⟨i+1,V,by omega,by go_num,rfl,G,aE⟩
      case measure=>simp [intOf];omega
   ·obtain rfl:i=cnt n:=by omega
    have t1:decide ((cnt n:Int)<(cnt n:Int))=false:=by simp
    have U:ps.take (32*cnt n)=ps:=XO (by rw [T.z];unfold cnt;omega);rw [U] at f;have d:=f.z;have l:=aw.z ps.length;rw [XB] at l;have al:=ZdE ps (cnt n) 0;have aj:=Zc n;have bI:cnt n<=n:=by unfold cnt;omega
    have bo:=Y4 (Zd.from d.oh (fun k E=>(d.fh k E).1));have bb:=Y4 (Zd.brow d.ob);have aM:=Y4 d.low;have aY:(Zb n++Z7 ps 0 (cnt n)).length+(ZE 0 ps).length<=140737488355328:=by rw [Xd];omega
    have ba:=d.low.size;have bn:Y5 (ZY ps=Zb n++(Z7 ps 0 (cnt n)++ZE 0 ps)):=Y4 (by unfold ZY;rw [T.z,Xk]);obtain ⟨pq,cq,rfl,ac,aL⟩:=(Zd.brow d.ob).shape;obtain ⟨pr,cr,rfl,bd,be⟩:=(Zd.brow d.oh).shape;clear d l al aj f U G ac aL bd be;go_wp2_with (at_builtin;refine Zh rfl _ _ rfl w.heap.size _ (Zb n++Z7 ps 0 (cnt n)) rfl bo.z _ (ZE 0 ps) rfl bb.z aY ba ?_)
    intro v8 w8 ag aI;rw [<- bn.z] at ag;have bc:=Y4 ag;have bj:=Y4 (aM.z.trans aI);clear ag aI;go_wp2_with fail;go_ret2;exact ⟨_,rfl,bc.z,bj.z⟩
 ·rw [Xc J] at s ⊢;clear J hr;go_enter func129,ntmps129;go_wp2_with fail;refine s.z.mono ?_;rintro e w1 ⟨rfl,M⟩;have ab:=Y4 M;clear M s;go_wp2_with fail;go_ret2;exact ⟨_,rfl,World.ownsRow_nil _ _ _ _,ab.z⟩
end PW
namespace PW
open RowKit MM PM VM
variable {B k:Nat} {wr w' w:World} {vh vb:Value} {H Bd:Xu}
theorem Zb2 {u u':Value} {L d:Xu} (h:B<=wr.heap.size) (g:Zd B wr u L) (f:Grown wr w' u u') (b:Zd 0 w' u' d):Zd B w' u' d/\Below B wr w':=by
 have c:∀k,u.ownBlock=some k->B<=k:=fun k a=>(World.ownsRow.lt g k a).1;refine ⟨Zd.from b fun k a => ?_,f.kep.below h fun k a e=>by have:=c k e;omega⟩;rcases f.2 k a with e|e
 ·exact c k e
 ·omega
theorem POn.sub {S:Nat->Prop} {b off n a:Nat} {ps:List Zk} (h:POn S w (.slice (some ⟨b,off,none⟩) n a) ps) {i j:Nat} (t:i<=j) (hj:j<=n):POn S w (.slice (some ⟨b,off+i*2,none⟩) (j - i) (a - i)) ((ps.drop i).take (j - i)):=by
 obtain ⟨p,c,v,g,h1,h2,h3,o,h⟩:=h;simp only [Value.slice.injEq] at g;obtain ⟨rfl,rfl,rfl⟩:=g;have q:=o.1;refine ⟨_,_,(v.drop i).take (j - i),by rw [Xi,Xp];congr 1;omega,by rw [Xi,Xp];omega,by omega,(fun s=>by cases s),⟨by rw [Xi,Xi,Xp,Xp,q],fun k e f => ?_⟩,?_⟩
 ·rw [Xi,Xp] at e f;simp only [Xbb,Xa0];exact o.2 (i+k) (by omega) (by omega)
 ·rcases h with h|⟨b',l,m,d,r,u⟩
  ·subst h;left;simp
  ·simp only [Xx,Addr.mk.injEq] at m;obtain ⟨rfl,rfl,_⟩:=m;right;refine ⟨b,off+i*2,rfl,d,r,fun k e => ?_⟩;rw [Xi,Xp] at e;simp only [Xbb,Xa0];have:=u (i+k) (by omega);rw [show off+i*2+k*2=off+(i+k)*2 by omega];exact this
theorem ZlL {n:Int} {ps:List Zk} (a:k<ps.length):ZE n (ps.take (k+1))=ZE n (ps.take k)++ZeW (ZI n (ps.take k)) ps[k]/\ZI n (ps.take (k+1))=ps[k].1+1:=by
 rw [XG a,ZbN,Zdb];exact ⟨by rw [ZE,ZE,XH],rfl⟩
theorem ZyU {n:Int} {ps:List Zk} (h:okL n ps) (a:k<ps.length):n<=ZI n (ps.take k)/\okP (ZI n (ps.take k)) ps[k]:=by
 refine ⟨(ZbH _ n (ZfR h k)).1,?_⟩;have:=Zhe h k;rw [X7 a,okL] at this;exact this.1
theorem ZiI (v:Value) (ps:List Zk) (a:Int) (w:World) (hr:Za7 w v ps) (ha : -1<=a) (ak:okL (a+1) ps) (hl:ps.length<=100000) (hs:ZaU ps<=1000000000) (ba:a<=65536):Calls prog 91 #[v,.int .i64 a] w (ZV w.heap.size (ZE (a+1) ps) w):=by
 obtain ⟨p,a9,rfl,a8,aT,_⟩:=hr.shape;unfold maxLen at aT;have HR:=Y4 hr;have aX:=Y4 (fun k (o:k<ps.length)=>ZlL (n:=a+1) o);have aI:=Y4 (fun k (o:k<ps.length)=>ZyU ak o);have a7:=Y4 (fun k (o:k<ps.length)=>ZpI ps k o)
 have a6:=Y4 (fun k=>show (ZE (a+1) (ps.take k)).length<=20000000000 by
  have h1:=Zeq (ps.take k) (a+1);have h2:=ZeB ps k;have h3:(ps.take k).length<=ps.length:=XaU _ _;omega)
 have aD:Y5 (Zd w.heap.size w (.slice none 0 0) (ZE (a+1) (ps.take 0))):=Y4 (World.ownsRow_nil _ _ _ _);have aj:Y5 (ZI (a+1) (ps.take 0)=a+1):=Y4 rfl;have aY:Y5 (ZE (a+1) (ps.take ps.length)=ZE (a+1) ps):=Y4 (by rw [XB]);clear hr ak;go_enter func91,ntmps91;go_wp2_with fail
 go_loopw [1,5,6] (fun av u iv wr=>∃(i:Nat) (A:Int),i<=ps.length/\iv=.int .i64 i/\av=.int .i64 A/\Y5 (ZI (a+1) (ps.take i)=A+1)/\Y5 (Zd w.heap.size wr u (ZE (a+1) (ps.take i)))/\Y5 (Below w.heap.size w wr)) (fun _ _ iv _=>ps.length - (intOf iv).toNat)
 case atStart=>exact ⟨0,a,by omega,rfl,rfl,aj,aD,Y4 (Below.refl _ _)⟩
 case round =>
  obtain ⟨i,A,hi,rfl,rfl,HA,HO,HB⟩:=hrel;clear aj aD
  by_cases t:i<ps.length
  ·have t1:decide ((i:Int)<(ps.length:Int))=true:=by simp;omega
   obtain ⟨b,off,x,rfl,af,_,C,ar,hx⟩:=(Za7.pon HR.z).at_ t;have c:=aX.z _ t;have g:=aI.z _ t;have Y:=a7.z _ t;have aL:=a6.z i;rw [HA.z] at c g;obtain ⟨⟨z,qs⟩,hz⟩:∃z,ps[i]=z:=⟨_,rfl⟩;rw [hz] at C hx c g Y;dsimp only at C hx c g Y;have aN:=HB.z.size;have hF:∀W,Below w.heap.size w W->W.cell? ⟨b,off+i*2,none⟩=some (.int .i64 z)/\W.cell? ⟨b,off+i*2+1,none⟩=some x:=fun W hW=>⟨(hW.cell (p:=⟨b,off+i*2,none⟩) af).trans C,(hW.cell (p:=⟨b,off+i*2+1,none⟩) af).trans ar⟩;have bb : -1<=A:=by have:=g.1;omega
   obtain ⟨aP,aW,aG,r⟩:=g.2;dsimp only at aP aW aG r;have a5:=ZfT r;have ae:=fun k (o:k<qs.length)=>Zod o;have ad:=fun k (o:k<qs.length)=>ZoF r o;have ac:=fun k=>(ZfJ (qs.take k) 0).2;have s:=Zcm u5 _ (z - A - 1) wr (by omega) (by omega) (Zd.zero HO.z) (by omega)
   have R:∀W u L,Zd 0 W u L->L.length<=1000000000000->Calls prog 90 #[u,.int .i64 qs.length] W (Zlp (L++Zb qs.length) u W):=fun W u L h hl=>by
    have:=Zcm u L (qs.length:Int) W (by omega) (by omega) h hl;rw [XY] at this;exact this
   have az:ZeW (A+1) (z,qs)=Zb (z - A - 1).toNat++(Zb qs.length++ZaB 0 (qs.take qs.length)):=by
    rw [XB];unfold ZeW;dsimp only;rw [show z - (A+1)=z - A - 1 by omega]
   rw [az] at c;obtain ⟨px,cx,rfl,aV,aJ,_⟩:=hx.shape;unfold maxLen at aJ;obtain ⟨P0,ai⟩:=Xn (ZE (a+1) (ps.take i));obtain ⟨P1,ah⟩:=Xn (Zb (z - A - 1).toNat);obtain ⟨P2,S⟩:=Xn (Zb qs.length);have aU:=Zc (z - A - 1).toNat;have aH:=Zc qs.length;rw [ai] at HO s aL c;rw [ah] at s aU c;simp only [S] at R;rw [S] at aH c;have aA:=Y4 s;have Z:=Y4 R;have HF:=Y4 hF;have HX:=Y4 hx;have aZ:=Y4 ae;have aO:=Y4 ad;have aK:=Y4 ac;have ap:=Y4 c.1;have aa:=Y4 c.2;obtain ⟨f0,f1⟩:=hF wr HB.z;obtain ⟨nq,j⟩:=Xn qs.length;have N:=Y4 j;rw [j] at f1 Z aV a5 Y;simp only [j] at HF;rw [j] at HX;clear c g C ar hz hF s R az ai ah S ae ad ac hx j HA aG r;go_wp2_with fail;refine aA.z.mono ?_;rintro e w2 ⟨u2,rfl,X,aC⟩;obtain ⟨I,F⟩:=Zb2 aN HO.z aC X;have a1:=Y4 I;have U:=Y4 (HB.z.trans F);have ax:=Y4 (Z.z w2 u2 _ X (by rw [Xd];omega));obtain ⟨f2,f3⟩:=HF.z w2 U.z;have aw:=U.z.size;clear X aC I F aA Z;go_wp2_with fail;refine ax.z.mono ?_;rintro e w3 ⟨u3,rfl,an,aF⟩;obtain ⟨E,J⟩:=Zb2 aw a1.z aF an;have a0:=Y4 (U.z.trans J);have ag:Y5 (Zd w.heap.size w3 u3 (P0++(P1++(P2++ZaB 0 (qs.take 0))))):=Y4 (by simp only [XaK,ZaB,XH,<- Xk];exact E);have aE:Y5 (ZaR 0 (qs.take 0) = -1+1):=Y4 rfl;clear an aF E J ax f0 f1 f2 f3;go_wp2_with fail
   go_loopw [5,7,8] (fun u lv kv wr=>∃(k:Nat) (L:Int),k<=nq/\kv=.int .i64 k/\lv=.int .i64 L/\Y5 (ZaR 0 (qs.take k)=L+1)/\Y5 (Zd w.heap.size wr u (P0++(P1++(P2++ZaB 0 (qs.take k)))))/\Y5 (Below w.heap.size w wr)) (fun _ _ kv _=>nq - (intOf kv).toNat)
   case atStart=>exact ⟨0, -1,by omega,rfl,rfl,aE,ag,a0⟩
   case round =>
    obtain ⟨k,L,o,rfl,rfl,HL,HOk,m⟩:=hrel;clear aE ag;obtain ⟨f0,f1⟩:=HF.z wr m.z;have aq:=m.z.size
    by_cases a2:k<nq
    ·have t2:decide ((k:Int)<(nq:Int))=true:=by simp;omega
     have O:k<qs.length:=by rw [N.z];exact a2
     obtain ⟨b2,ab,rfl,aB,bc,d⟩:=HX.z.at_ O;obtain ⟨q,l⟩:=aZ.z k O;obtain ⟨a4,ao,aS⟩:=aO.z k O;have aQ:=aK.z k
     have al:(P0++(P1++(P2++ZaB 0 (qs.take k)))).length<=1000000000000:=by
      have:(qs.take k).length<=qs.length:=XaU _ _;rw [N.z] at this;simp only [Xd];omega
     rw [HL.z] at q a4 ao;obtain ⟨y,hy⟩:=Xn (qs[k]);rw [hy] at d q l ao aS;have am:=Y4 (fun W (hW:Below w.heap.size w W)=>(hW.cell (p:=⟨b2,ab+k,none⟩) aB).trans d);have f:=am.z wr m.z;have HK:=Y4 (Zcm _ _ (y - L - 1) wr (by omega) (by omega) (Zd.zero HOk.z) al)
     have e1:P0++(P1++(P2++ZaB 0 (qs.take k)))++Zb (y - L - 1).toNat=P0++(P1++(P2++ZaB 0 (qs.take (k+1)))):=by
      rw [q,show y - (L+1)=y - L - 1 by omega];simp only [Xk]
     rw [e1] at HK;have aR:=Y4 l;clear q l aQ al e1 hy HL d;go_wp2_with fail;refine HK.z.mono ?_;rintro e w4 ⟨u4,rfl,au,ay⟩;obtain ⟨D,G⟩:=Zb2 aq HOk.z ay au;have aM:=Y4 D;have M:=Y4 (m.z.trans G);clear f0 f1 f au ay D G HK;obtain ⟨f0,f1⟩:=HF.z w4 M.z;have f:=am.z w4 M.z;go_wp2_with fail;go_roundw
     case rel=>exact ⟨k+1,y,by omega,by go_num,rfl,aR,aM,M⟩
     case measure=>simp [intOf];omega
    ·obtain rfl:k=nq:=by omega
     have t2:decide ((k:Int)<(k:Int))=false:=by simp
     have V:=HOk.z;rw [<- N.z,<- ap.z] at V;have T:=Y4 V;have a3:Y5 (ZI (a+1) (ps.take (i+1))=z+1):=Y4 aa.z;clear HL V HOk;go_wp2_with fail;go_roundw
     case rel=>exact ⟨i+1,z,by omega,by go_num,rfl,a3,T,m⟩
     case measure=>simp [intOf];omega
  ·obtain rfl:i=ps.length:=by omega
   have t1:decide ((ps.length:Int)<(ps.length:Int))=false:=by simp
   have V:=HO.z;rw [aY.z] at V;have T:=Y4 V;clear HA V HO;go_wp2_with fail;go_ret;exact ⟨_,rfl,T.z,HB.z⟩
theorem EncSt.forget {W:World} {b:Option Nat} (h:EncSt w W wr b vh vb H Bd):EncSt w w wr none vh vb H Bd :=
 ⟨h.low,h.low.size,Xa _,(fun g c=>by cases c),h.oh,h.ob,fun k a=>⟨(h.fh k a).1,by simp⟩,fun k a=>⟨(h.fb k a).1,by simp⟩,h.ap⟩
theorem EncSt.row {x:Value} {X:Xu} (h:EncSt w w wr none vh vb H Bd) {b:World} (c:Below wr.heap.size wr b) (d:Zd wr.heap.size b x X):EncSt w b b x.ownBlock vh vb H Bd :=
 ⟨h.low.trans (c.mono h.low.size),Xa _,Xy h.low.size c.size,fun g j=>⟨(World.ownsRow.lt d g j).2,rfl⟩,Zd.keep h.oh c,Zd.keep h.ob c,
  fun k a=>⟨(h.fh k a).1,fun e=>by have f:=(World.ownsRow.lt d k e).1;have i:=Zaw h.oh k a;omega⟩,
  fun k a=>⟨(h.fb k a).1,fun e=>by have f:=(World.ownsRow.lt d k e).1;have i:=Zaw h.ob k a;omega⟩,h.ap⟩
theorem Zgm {v:Value} {l:Xu} (h:Zd B w v l) (d:∀g,v.ownBlock=some g->w'.heap[g]? = w.heap[g]?):Zd B w' v l:=by
 refine ⟨h.1,?_⟩;rcases h.2 with e|⟨g,b,a,c,i,f,rest⟩
 ·exact .inl e
 ·exact .inr ⟨g,b,a,c,i,by rw [d g (by rw [c];rfl)];exact f,rest⟩
theorem Zse (ps:List Zk) (i M:Nat) (a:ps.take M=ps.take (32*(i+1))) (h1:32*i<=M):ZE 0 (ps.take (32*(i+1)))=ZE 0 (ps.take (32*i))++ZE (ZI 0 (ps.take (32*i))) ((ps.drop (32*i)).take (M - 32*i)):=by
 rw [<- ZbN,<- a,<- List.take_add,show 32*i+(M - 32*i)=M by omega]
theorem ZyS {ps:List Zk} (h:okL 0 ps) (i k:Nat):okL (ZI 0 (ps.take i)) ((ps.drop i).take k):=ZfR (Zhe h i) k
theorem Zk5:∀(a b:List Zk),ZaU (a++b)=ZaU a+ZaU b
 | [],b=>by simp [ZaU]
 | p::a,b=>by rw [XK,ZaU,ZaU,Zk5 a b];omega
theorem Zwm (ps:List Zk) (i:Nat):ZaU (ps.drop i)<=ZaU ps:=by
 have:=Zk5 (ps.take i) (ps.drop i);rw [X8] at this;omega
theorem Zd0 (v:Value) (ps:List Zk) (w:World) (hr:Za7 w v ps) (hl:ps.length<=100000) (hs:ZaU ps<=1000000000):Calls prog 42 #[v] w (ZtH (encR ps) w):=by
 have j:=Y4 (ZCC v ps w hr);unfold encR;cases hok:isL ps with
 | true =>
   rw [hok] at j;rw [Xe rfl];have F:=(Zed ps).1 hok;have T:=Y4 hr;have aX:=Y4 (fun k=>show Zby ps k<=20000000000 by have:=ZtV ps k;omega)
   have aS:=Y4 (fun k=>show (ZE 0 (ps.take k)).length<=20000000000 by
    have h1:=Zeq (ps.take k) 0;have h2:=ZeB ps k;have h3:(ps.take k).length<=ps.length:=XaU _ _;omega)
   have aU:=Y4 (fun k=>ZbH (ps.take k) 0 (ZfR F k));have ae:=Y4 (fun i k=>ZyS F i k);have bg:=Y4 (fun k (S:k<ps.length)=>(ZlL (n:=0) S).2);obtain ⟨p,aC,rfl,aW,ba,_⟩:=hr.shape
   have J:=Y4 (fun W=>by
    have:=Zcm (.slice none 0 0) [] (ps.length:Int) W (by omega) (by omega) (World.ownsRow_nil _ _ _ _) (by simp);rw [XY,XE] at this;exact this)
   unfold maxLen at ba;obtain ⟨n,aj⟩:=Xn ps.length;have l:=Y4 aj;rw [aj] at j T J hl aW ⊢;clear hr aj hok F;go_enter func42,ntmps42;go_wp2_with fail;refine j.z.mono ?_;rintro e w1 ⟨rfl,E⟩;have s:=Y4 E;clear E j;go_wp2_with fail;refine (J.z _).mono ?_;rintro e w2 ⟨vh,rfl,aP,am⟩
   have d:EncSt w w w2 none vh (.slice none 0 0) (Zb n++Z7 ps 0 0) (ZE 0 (ps.take (32*0))):=by
    have ap:Below w1.heap.size w1 w2:=am.kep.below (Xa _) (fun k S e=>by cases e);refine ⟨s.z.trans (ap.mono s.z.size),Xy s.z.size ap.size,Xa _,(fun g hg=>by cases hg),?_,World.ownsRow_nil _ _ _ _,fun k S => ?_,(fun k S=>by cases S),(fun k S bb=>by cases bb)⟩
    ·rw [Z7,XH];exact aP
    ·refine ⟨?_,by simp⟩;rcases am.2 k S with e|e
     ·cases e
     ·exact Xy s.z.size e
   have U:=Y4 d;have ay:Y5 (ZI 0 (ps.take (32*0)) = -1+1):=Y4 (by rw [XaY,XaK];rfl);clear d aP am J;go_wp2_with fail
   go_loopw [4,5,6,7] (fun vh vb a iv wr=>∃(i I:Nat) (A:Int),Y5 (I=32*i)/\I<=32*cnt n/\iv=.int .i64 I/\a=.int .i64 A/\Y5 (ZI 0 (ps.take (32*i))=A+1)/\Y5 (EncSt w w wr none vh vb (Zb n++Z7 ps 0 i) (ZE 0 (ps.take (32*i))))) (fun _ _ _ iv _=>32*cnt n+1 - (intOf iv).toNat)
   case atStart=>exact ⟨0,0, -1,Y4 rfl,by omega,rfl,rfl,ay,U⟩
   case round =>
    obtain ⟨i,I,A,N,hi,rfl,rfl,HA,t⟩:=hrel;clear ay U
    by_cases bc:I<n
    ·have t1:decide ((I:Int)<(n:Int))=true:=by simp;omega
     obtain ⟨M,hM⟩:=Xn (min n (I+32));have a1:M<=n:=by omega
     obtain ⟨m,hm⟩:∃m,M - I=m+1:=⟨M - I - 1,by omega⟩;have a3:I<M:=by omega
     have f:ps.take M=ps.take (32*(i+1)):=by
      have h1:=N.z;have h2:=l.z
      by_cases bp:n<=I+32
      ·rw [XO (by omega),XO (by omega)]
      ·rw [show M=32*(i+1) by omega]
     obtain ⟨b,off,x0,rfl,a0,_,_,_,_⟩:=(Za7.pon T.z).at_ (show I<ps.length by rw [l.z];exact bc);have Y:=t.z.low;have Z:=POn.sub (T.z.below Y) (Xal a3) a1;have ah:M - 1<ps.length:=by rw [l.z];omega
     obtain ⟨b',bl,x,y,_,_,an,_,a6⟩:=(Za7.pon T.z).at_ ah;simp only [Xx,Addr.mk.injEq] at y;obtain ⟨rfl,rfl,_⟩:=y;have r:=bg.z _ ah;rw [show M - 1+1=M by omega,f] at r;have aH:=aU.z (32*i);have ab:=aU.z (32*(i+1));have R:=ae.z (32*i) (M - 32*i);rw [HA.z] at R aH;have aI:((ps.drop I).take (M - I)).length=M - I:=by rw [Xi,Xp,l.z];omega
     have aL:ZaU ((ps.drop I).take (M - I))<=1000000000:=by
      have h1:=ZeB (ps.drop I) (M - I);have h2:=Zwm ps I;omega
     have G:=ZiI _ ((ps.drop I).take (M - I)) A wr Z (by omega) (by rw [N.z];exact R) (by omega) aL (by omega);have c:=Zse ps i M f (by rw [<- N.z];omega);rw [HA.z,<- N.z] at c;obtain ⟨X,hX⟩:=Xn (ZE (A+1) ((ps.drop I).take (M - I)));rw [hX] at G c
     have aa:X≠[]:=by
      intro e;have:=ZgU ((ps.drop I).take (M - I)) (A+1) (by rw [N.z];exact R);rw [hX,e,aI] at this;simp at this;omega
     have ad:Zby ps (i+1)=Zby ps i+X.length:=by
      unfold Zby;rw [c,Xd,N.z]
     obtain ⟨z,hz⟩:=Xn (ps[M - 1].1);rw [hz] at r an;rw [r] at ab;have aJ:h1L ps i=z.toNat:=by unfold h1L;rw [r];congr 1;omega
     have aF:h2L ps i=X.length:=by unfold h2L;omega
     have aY:=aX.z (i+1)
     have a7:0<=z:=by
      have h3:(ps.take (32*(i+1))).length>=1:=by rw [<- f,Xi,l.z];omega
      omega
     have aA:=Zc n;have af:=ZdE ps i 0;have bs:i<=n:=by have:=N.z;omega
     have ao:=aS.z (32*i);have aD:∀W,Zd 0 W u4 (Zb n++Z7 ps 0 i)->Calls prog _ #[u4,.int .i64 z] W _:=fun W h=>Zcm u4 _ z W a7 (by omega) h (by rw [Xd];omega);have ai:∀W u,Zd 0 W u (Zb n++Z7 ps 0 i++Zb z.toNat)->Calls prog _ #[u,.int .i64 (X.length:Int)] W _:=fun W u h=>Zcm u _ (X.length:Int) W (by omega) (by omega) h (by have:=Zc z.toNat;simp only [Xd];omega)
     have e3:Zb n++Z7 ps 0 i++Zb z.toNat++Zb (X.length:Int).toNat=Zb n++Z7 ps 0 (i+1):=by
      rw [Zha,XL,ZgE,aJ,aF,XY];simp only [Xk]
     rw [e3] at ai;have J:=Y4 aD;have bj:=Y4 ai;have V:=Y4 G;have aT:=Y4 r;have au:=Y4 aa;have ag:=Y4 c;have ac:(ZE 0 (ps.take (32*i))).length+X.length<=140737488355328:=by omega
     have ak:=fun W (hW:Below w.heap.size w W)=>(hW.cell (p:=⟨b,off+(M - 1)*2,none⟩) a0).trans an;rw [show off+(M - 1)*2=off+I*2+m*2 by omega] at ak;have be:=Y4 ak;have bk:(if (n:Int)<(I:Int)+32 then (n:Int) else (I:Int)+32)=(M:Int):=by split<;>omega
     have a9:(if (I:Int)+32<(n:Int) then (I:Int)+32 else (n:Int))=(M:Int):=by split<;>omega
     have a4:min (n:Int) ((I:Int)+32)=(M:Int):=by omega
     have i1:(I:Int)<=(M:Int):=by omega
     have i2:(M:Int)<=(aC:Int):=by omega
     have a8:¬aC=I:=by omega
     have i4:((M - I:Nat):Int) - 1=(m:Int):=by omega
     have i5:m<M - I:=by omega
     have bn:=Y4 hm;have bo:=Y4 f;have aO:Y5 (I+32<=32*cnt n/\I+32=32*(i+1)):=Y4 (by have:=N.z;unfold cnt;omega);have bq:I<=200000:=by omega
     clear Z R aH ab r G c hX aa ad aJ aF aY aA af ao aD ai e3 an aI aL a6 ah Y ak hz f hM hm;go_wp2_with fail;refine V.z.mono ?_;rintro e w5 ⟨vx,rfl,al,aK⟩;have O:=t.z.row aK al;have bf:=be.z w5 O.low;have D:=Y4 O;have aw:=Y4 al;clear O al aK V t;obtain ⟨px,cx,rfl,br,bm⟩:=(Zd.brow aw.z).shape;go_wp2_with fail;refine (J.z _ D.z.oh).mono ?_;rintro e w6 ⟨v6,rfl,aE,av⟩;have C:=Y4 (D.z.growH av aE);clear aE av D;go_wp2_with fail;refine (bj.z _ _ C.z.oh).mono ?_;rintro e w7 ⟨v7,rfl,aN,aR⟩;have o:=Y4 (C.z.growH aR aN);clear aN aR C;have aB:=Y4 (Zgm aw.z (fun g hg=>(o.z.blk g hg).2));have aV:=Y4 (Zd.brow aB.z);have aQ:=Y4 o.z.ob;go_wp2_with (at_builtin;refine Zn rfl _ _ rfl _ (ZE 0 (ps.take (32*i))) rfl aQ.z _ X rfl aV.z au.z ac ?_)
     intro v8 w8 q ar;have L:=(o.z.growB ar q).forget;rw [<- N.z,<- ag.z] at L;have aq:=Y4 L;clear q ar L o;go_wp2_with fail;go_roundw
     case rel=>exact ⟨i+1,I+32,z,Y4 aO.z.2,aO.z.1,by go_num,rfl,aT,aq⟩
     case measure=>simp [intOf];omega
    ·have t1:decide ((I:Int)<(n:Int))=false:=by simp;omega
     have f:ps.take (32*i)=ps:=XO (by rw [l.z,<- N.z];omega);have aG:i=cnt n:=by have:=N.z;unfold cnt at hi ⊢;omega
     rw [f,aG] at t;have d:=t.z;have y:=aS.z ps.length;rw [XB] at y;have af:=ZdE ps (cnt n) 0;have aZ:=Zc n;have bt:cnt n<=n:=by unfold cnt;omega
     have bi:=Y4 (Zd.from d.oh (fun k S=>(d.fh k S).1));have ae:=Y4 (Zd.brow d.ob);have az:=Y4 d.low;have aM:(Zb n++Z7 ps 0 (cnt n)).length+(ZE 0 ps).length<=140737488355328:=by rw [Xd];omega
     have a2:=d.low.size;have bh:Y5 (ZY ps=Zb n++(Z7 ps 0 (cnt n)++ZE 0 ps)):=Y4 (by unfold ZY;rw [l.z,Xk]);clear d y af aZ t f HA aG;go_wp2_with (at_builtin;refine Zh rfl _ _ rfl w.heap.size _ (Zb n++Z7 ps 0 (cnt n)) rfl bi.z _ (ZE 0 ps) rfl ae.z aM a2 ?_)
     intro v8 w8 q ax;rw [<- bh.z] at q;have a5:=Y4 q;have bd:=Y4 (az.z.trans ax);clear q ax;go_wp2_with fail;go_ret2;exact ⟨_,rfl,a5.z,bd.z⟩
 | false =>
   rw [hok] at j;rw [Xc (by simp)];clear hok hr;go_enter func42,ntmps42;go_wp2_with fail;refine j.z.mono ?_;rintro e w1 ⟨rfl,E⟩;have s:=Y4 E;clear E j;go_wp2_with fail;go_ret2;exact ⟨_,rfl,World.ownsRow_nil _ _ _ _,s.z⟩
