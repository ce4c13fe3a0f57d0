import Derived.Test.YtdijhifdjbnkfaaGreatZT26
import Derived.Deep.MidRow
set_option maxRecDepth 100000
set_option maxHeartbeats 0
set_option linter.unusedVariables false
set_option linter.unusedSimpArgs false
namespace Go.Proofs.YtdijhifdjbnkfaaGreat
open Lib (hid)
open Tryz
namespace TK
open RowKit MM
open UM (ZR ZU ZV runesL)
variable {B n g:Nat} {w w':World} {v:Value}
theorem ZtB:(prog.info? 134).map (fun i=>(i.zero,i.size,i.bytes))=some (some (.agg #[.string ⟨#[]⟩,.int .i64 0]),2,24):=by kernel_rfl
def ZCD (t:Xu×Int):List Value:=[.string ⟨t.1.toArray⟩,.int .i64 t.2]
def Zbc (a:List (Xu×Int)):List Value:=a.flatMap ZCD
theorem Zep (a:List (Xu×Int)):(Zbc a).length=a.length*2:=by
 induction a with
 | nil=>rfl
 | cons t a ih =>
   have e:Zbc (t::a)=ZCD t++Zbc a:=rfl;rw [e,Xd,ih,Xh];simp [ZCD];omega
theorem ZgM (a b:List (Xu×Int)):Zbc (a++b)=Zbc a++Zbc b:=by simp [Zbc]
theorem ZgE:∀(a:List (Xu×Int)) (i:Nat) (h:i<a.length),(Zbc a)[i*2]? = some (.string ⟨a[i].1.toArray⟩)/\(Zbc a)[i*2+1]? = some (.int .i64 a[i].2)
 | t::a,0,_=>⟨rfl,rfl⟩
 | t::a,i+1,h=>by
   have:=ZgE a i (by simpa using h);have e:Zbc (t::a)=.string ⟨t.1.toArray⟩::.int .i64 t.2::Zbc a:=rfl;rw [e,show (i+1)*2=i*2+1+1 by omega];simpa using this
def ZdX (a:List Xu):List (Xu×Int):=a.zipIdx.map fun p=>(p.1,(p.2:Int))
theorem ZbH (a:List Xu):(ZdX a).length=a.length:=by simp [ZdX]
theorem Zoi (a:List Xu) (x:Xu):ZdX (a++[x])=ZdX a++[(x,(a.length:Int))]:=by simp [ZdX,List.zipIdx_append]
theorem Zjh (a:List Xu) (i:Nat) (h:i<(ZdX a).length):(ZdX a)[i]=(a[i]'(by rw [ZbH] at h;exact h),(i:Int)):=by simp [ZdX]
def KIn (B:Nat) (w:World) (v:Value) (c:List (Xu×Int)):Prop :=
 ∃(p:Option Addr) (a:Nat),v=.slice p c.length a/\c.length<=a/\a<=maxLen /\
   (c=[]\/∃b off,p=some ⟨b,off,none⟩/\b<B/\∀i (h:i<c.length),w.cell? ⟨b,off+i*2,none⟩=some (.string ⟨c[i].1.toArray⟩)/\w.cell? ⟨b,off+i*2+1,none⟩=some (.int .i64 c[i].2))
def Zif (w:World) (v:Value) (a:List (Xu×Int)):Prop:=KIn w.heap.size w v a
theorem KIn.below {e:List (Xu×Int)} (h:KIn B w v e) (d:Below B w w'):KIn B w' v e:=by
 obtain ⟨p,c,k,m,j,h⟩:=h;refine ⟨p,c,k,m,j,?_⟩;rcases h with h|⟨b,off,l,a,f⟩
 ·exact .inl h
 ·exact .inr ⟨b,off,l,a,fun i hi=>by
   rw [d.cell (p:=⟨b,off+i*2,none⟩) a,d.cell (p:=⟨b,off+i*2+1,none⟩) a];exact f i hi⟩
theorem KIn.mono {B':Nat} {c:List (Xu×Int)} (h:KIn B w v c) (hB:B<=B'):KIn B' w v c:=by
 obtain ⟨p,a,f,k,e,h⟩:=h;refine ⟨p,a,f,k,e,?_⟩;rcases h with h|⟨b,off,i,j,d⟩
 ·exact .inl h
 ·exact .inr ⟨b,off,i,by omega,d⟩
theorem Zif.below {b:List (Xu×Int)} (h:Zif w v b) (a:Below w.heap.size w w'):Zif w' v b:=(KIn.below h a).mono a.size
theorem KIn.shape {b:List (Xu×Int)} (h:KIn B w v b):∃p a,v=.slice p b.length a/\b.length<=a/\a<=maxLen:=by
 obtain ⟨p,a,d,e,c,_⟩:=h;exact ⟨p,a,d,e,c⟩
theorem KIn.at_ {p:Option Addr} {d:Nat} {a:List (Xu×Int)} (h:KIn B w (.slice p n d) a) {k:Nat} (f:k<a.length) :
  ∃b off,p=some ⟨b,off,none⟩/\b<B/\w.cell? ⟨b,off+k*2,none⟩=some (.string ⟨a[k].1.toArray⟩)/\w.cell? ⟨b,off+k*2+1,none⟩=some (.int .i64 a[k].2):=by
 obtain ⟨p',cap',e,_,_,h⟩:=h;simp only [Value.slice.injEq] at e;obtain ⟨rfl,_,_⟩:=e;rcases h with h|⟨b,off,j,c,i⟩
 ·subst h;simp at f
 ·exact ⟨b,off,j,c,i k f⟩
def ZhZ (B:Nat) (w:World) (v:Value) (a:List (Xu×Int)):Prop:=w.ownsRow B 134 2 v a.length (Zbc a)
theorem ZhZ.nil_ (B:Nat) (w:World):ZhZ B w (.slice none 0 0) []:=World.ownsRow_nil _ _ _ _
theorem ZhZ.keep {a:List (Xu×Int)} (h:ZhZ B w v a) (b:Below w.heap.size w w'):ZhZ B w' v a:=Zdf (B:=0) h b
theorem ZhZ.krow {b:List (Xu×Int)} (h:ZhZ B w v b):Zif w v b:=by
 rcases h.2 with ⟨rfl,o⟩|⟨g,e,l,rfl,hg,f,d,k,hs,p⟩
 ·have:b=[]:=XO o;subst this;exact ⟨none,0,rfl,Xc _,by unfold maxLen;omega,.inl rfl⟩
 ·refine ⟨some ⟨g,0,none⟩,e,rfl,d,k,.inr ⟨g,0,rfl,(Xo.1 f).1,fun i hi => ?_⟩⟩;have a:=ZgE b i hi
  have c:∀j u,(Zbc b)[j]? = some u->w.cell? ⟨g,0+j,none⟩=some u:=fun j u m=>by
   have:=Lib.cells_of_row f (b.length*2) j u (by rw [p];exact m);rw [ZY] at this;exact this
  exact ⟨c _ _ a.1,by have:=c _ _ a.2;rw [<- Xav] at this;exact this⟩
theorem ZhZ.shape {b:List (Xu×Int)} (h:ZhZ B w v b):∃p a,v=.slice p b.length a/\b.length<=a/\a<=maxLen:=h.krow.shape
def ZwC (a:List (Xu×Int)) (w:World) (e:Ending) (w':World):Prop:=∃v,e=.returned v/\Zif w' v a/\Below w.heap.size w w'
theorem Ze8 {a:World} (h:Below B a w) {o:Nat} (b:B<=g) (vs:List Value):Below B a (w.setCells g o vs):=by
 induction vs generalizing w o with
 | nil=>exact h
 | cons v vs ih=>exact ih (h.setCell (p:=⟨g,o,none⟩) b v)
def Zcd (w:World) (g:Nat):Prop:=∃a fr,w.heap[g]? = some (.cells a 134 fr)
theorem Zcd.set (h:Zcd w g) (o:Nat) (v:Value):Zcd (w.setCell ⟨g,o,none⟩ v) g:=by
 obtain ⟨a,fr,h⟩:=h;refine ⟨a.setIfInBounds o v,fr,?_⟩;simp [World.setCell,Array.getElem?_modify,h]
theorem Zcd.sets (h:Zcd w g) (o:Nat) (vs:List Value):Zcd (w.setCells g o vs) g:=by
 induction vs generalizing w o with
 | nil=>exact h
 | cons v vs ih=>exact ih (h.set o v) (o+1)
def Zkm (B:Nat) (w:World) (g n:Nat) (a:List (Xu×Int)):Prop:=B<=g/\g<w.heap.size/\w.there g 0 (n*2)/\w.rangeAt g 0 (Zbc a)/\Zcd w g
theorem Zqo {k:List Value} (h:w.ownsRow B 134 2 (.slice (some ⟨g,0,none⟩) n n) n k):Zkm B w g n []:=by
 rcases h.2 with ⟨c,_⟩|⟨g',l,a,c,e,b,hn,hm,hs,ht⟩
 ·cases c
 ·simp only [Value.slice.injEq,Xv,Addr.mk.injEq] at c;obtain ⟨⟨rfl,_⟩,_,rfl⟩:=c;refine ⟨e,(Xo.1 b).1,fun j d=>⟨?_,frozen_of_row w g _ a _ b⟩,(fun j v d=>by simp [Zbc] at d),⟨a,_,b⟩⟩;have f:∃u,(a.toList.take (n*2))[j]? = some u:=⟨_,XW (by rw [Xi,Array.length_toList];omega)⟩;obtain ⟨u,i⟩:=f;have:=Lib.cells_of_row b (n*2) j u i;rw [ZY] at this;rw [this];rfl
theorem Zkm.next {a:List (Xu×Int)} (h:Zkm B w g n a) (hk:a.length<n) (x:Xu) (p:Int) :
  Zkm B (w.setCells g (a.length*2) [.string ⟨x.toArray⟩,.int .i64 p]) g n (a++[(x,p)]):=by
 obtain ⟨f,o,d,l,k⟩:=h
 have i:w.there g (a.length*2) [Value.string ⟨x.toArray⟩,.int .i64 p].length:=fun j b=>by
  have:=d (a.length*2+j) (by simp at b;omega);rw [XL] at this;exact this
 refine ⟨f,?_,World.there_setCells d _ _ _,?_,k.sets _ _⟩
 ·exact XK o (Ze8 (Below.refl 0 w) (XU _) _).size
 ·have e:=World.rangeAt_setCells_apart l g (a.length*2) [.string ⟨x.toArray⟩,.int .i64 p] (.inr (.inl (by rw [Zep];omega)));have m:=World.rangeAt_setCells_same w g (a.length*2) _ i;intro j v b;rw [ZgM] at b
  by_cases c:j<a.length*2
  ·rw [List.getElem?_append_left (by rw [Zep];exact c)] at b;exact e j v b
  ·rw [Xbt (by rw [Zep];omega),Zep] at b;have:=m (j - a.length*2) v b;rw [show a.length*2+(j - a.length*2)=0+j by omega] at this;exact this
theorem Zkm.krow {b:List (Xu×Int)} (h:Zkm B w g n b) (j:b.length=n) (f:n<=maxLen):Zif w (.slice (some ⟨g,0,none⟩) n n) b:=by
 obtain ⟨h1,k,h3,c,_⟩:=h;subst j;refine ⟨some ⟨g,0,none⟩,b.length,rfl,Xc _,f,.inr ⟨g,0,rfl,k,fun i hi => ?_⟩⟩;have a:=ZgE b i hi;have e:=c _ _ a.1;have d:=c _ _ a.2;rw [<- Xav] at d;exact ⟨e,d⟩
theorem Zm9 (s:ByteArray) (w:World) (hs:s.size<=1000000):Calls prog 225 #[.string s] w fun e w'=>∃g,e=.returned (.slice (some ⟨g,0,none⟩) (ZdX (Z6 s.data.toList)).length (ZdX (Z6 s.data.toList)).length)/\Zif w' (.slice (some ⟨g,0,none⟩) (ZdX (Z6 s.data.toList)).length (ZdX (Z6 s.data.toList)).length) (ZdX (Z6 s.data.toList))/\Zcd w' g/\w.heap.size<=g/\Below w.heap.size w w':=by
 obtain ⟨i0,hi,N,J,G⟩:=info_parts ZtB;have V:=Zam s.data.toList;rw [<- Lib.size_eq] at V;have D:=hid (Zwi s w hs);obtain ⟨a,F⟩:=Xn (Z6 s.data.toList);rw [F] at V D ⊢;have af:a.length<=1000000:=by omega
 clear F V;obtain ⟨L,T⟩:=Xn (ZdX a);have O:L.length=a.length:=by rw [<- T,ZbH]
 have d:=hid O;have H:Hid (∀i (h:i<L.length) (h':i<a.length),L[i]=(a[i],(i:Int))):=hid (by subst T;exact fun i h h'=>Zjh a i h);rw [T];clear T O;go_enter func225,ntmps225;go_wp2_with fail;refine D.out.mono ?_;rintro e c ⟨v,rfl,q,C⟩;obtain ⟨p,ag,rfl,ae,aa⟩:=q.shape;unfold maxLen at aa;have HT:=hid q.trow;have ac:=hid C;have A:=C.size;clear q C D;go_wp2_with (at_make;refine wpList_make_full c rfl _ _ 130 rfl c.heap.size 134 i0 (.agg #[.string ⟨#[]⟩,.int .i64 0]) 2 underlying130 hi N J .i64 .i64 _ _ a.length rfl rfl rfl rfl (by rw [G];omega) (by unfold maxLen;omega) (Xc _) ?_)
 intro w2 f R;have b2:=(Below.refl c.heap.size c).grown R (Xc _) (fun k h=>by cases h);have M:Hid (Zkm c.heap.size w2 c.heap.size a.length (L.take 0)):=hid (Zqo f);have I:=hid b2;clear f R b2 hi N J G;go_wp2_with fail
 go_loopw [14] (fun i wr=>∃k:Nat,k<=a.length/\i=.int .i64 k/\Hid (Zkm c.heap.size wr c.heap.size a.length (L.take k))/\Hid (Below c.heap.size c wr)) (fun i _=>a.length - (intOf i).toNat)
 case atStart=>exact ⟨0,by omega,rfl,M,I⟩
 case round =>
  obtain ⟨k,S,rfl,U,Z⟩:=hrel;clear M I
  by_cases l:k<a.length
  ·have t1:decide ((k:Int)<(a.length:Int))=true:=by simp;omega
   obtain ⟨b,off,rfl,Y,m⟩:=TIn.at_ HT.out l;have y:=(Z.out.cell (p:=⟨b,off+k,none⟩) Y).trans m;have r:(L.take k).length=k:=by rw [Xi,d.out];omega
   have E:L.take (k+1)=L.take k++[(a[k],(k:Int))]:=by
    rw [XG (by rw [d.out];exact l),H.out k (by rw [d.out];exact l) l]
   have t:=U.out.next (by rw [r];exact l) a[k] (k:Int);rw [<- E,r] at t;obtain ⟨x,hx⟩:=Xn (a[k]);rw [hx] at t y
   have u:wr.there c.heap.size (k*2) 2:=fun j hj=>by
    have:=U.out.2.2.1 (k*2+j) (by omega);rw [XL] at this;exact this
   have HS:=hid t;obtain ⟨u0,f1⟩:=Xbr.1 (u 0 (by omega)).1;have f2:=(u 0 (by omega)).2;have f3:=((World.there_setCells u c.heap.size (k*2) [.string ⟨x.toArray⟩]) 1 (by omega));obtain ⟨u1,ad⟩:=Xbr.1 f3.1;have W:=f3.2;rw [Xah] at f1 f2;have e1:wr.setCells c.heap.size (k*2) [.string ⟨x.toArray⟩]=wr.setCell ⟨c.heap.size,k*2,none⟩ (.string ⟨x.toArray⟩):=rfl;rw [e1] at ad W;have ab:=hid (Ze8 Z.out (g:=c.heap.size) (o:=k*2) (Xc _) [.string ⟨x.toArray⟩,.int .i64 (k:Int)]);clear t u m E hx e1 f3;go_wp2_with fail;go_roundw
   case rel=>exact ⟨k+1,by omega,by go_num,HS,ab⟩
   case measure=>simp [intOf];omega
  ·obtain rfl:k=a.length:=by omega
   have t1:decide ((a.length:Int)<(a.length:Int))=false:=by simp
   have r:L.take a.length=L:=by rw [<- d.out,XC]
   have S:=U.out;rw [r] at S;have HK:=hid (S.krow d.out (by unfold maxLen;omega));have X:=hid (ac.out.trans (Z.out.mono A));have HG:=hid S.2.2.2.2;clear S r U;go_wp2_with fail;go_ret;have z:=d.out;refine ⟨c.heap.size,?_,?_,HG.out,A,X.out⟩
   ·rw [z];rfl
   ·rw [z];exact HK.out
variable {w:World} {all:List Int} {ss:List Xu}
theorem Zue (w:World) (x y:Value) (t:TypeId):∀j u,[x,y][j]? = some u->(w.alloc (.cells #[x,y] t)).cell? ((⟨w.heap.size,0,none⟩:Addr).add j)=some u:=by
 intro j u a
 match j,a with
 | 0,a=>simp at a;subst a;simp [Addr.add]
 | 1,a=>simp at a;subst a;simp [Addr.add]
 | (j+2),a=>simp at a
theorem Zfp {ops:Array Oper} {rest:List Oper} {o:Oper} {a:Act} {Q:Exit->Act->World->Prop} (g:o.guard=none) (s x:Operand)
  (A:o.op=.call { callee:=.builtin .append,args:=#[s,x],argTypes:=#[130,130] }) (B:Nat) (v:Value) (e:List (Xu×Int)) (d:World) (z:Xu) (p:Int) (y:w=d.alloc (.cells #[.string ⟨z.toArray⟩,.int .i64 p] 134)) (hs:a.eval s=v) (b:ZhZ B d v e)
  (r:a.eval x=.slice (some ⟨d.heap.size,0,none⟩) 1 1) (m:e.length<=1000000000000) (c:B<=d.heap.size)
  (h:∀v' w',ZhZ B w' v' (e++[(z,p)])->Below B d w'->wpList prog ops Q rest (a.put o.dst v') w'):wpList prog ops Q (o::rest) a w:=by
 subst y;obtain ⟨i0,hi,j,l,i⟩:=info_parts ZtB;have f:∀k,v.ownBlock=some k->B<=k:=fun k t=>(World.ownsRow.lt b k t).1
 refine wpList_append_own _ g s x 130 A B 134 i0 (.agg #[.string ⟨#[]⟩,.int .i64 0]) 2 24 underlying130 hi j l i rfl (by decide) v e.length _ hs (World.ownsRow.alloc b _) ⟨d.heap.size,0,none⟩ 1 1 [.string ⟨z.toArray⟩,.int .i64 p] r rfl (Zue _ _ _ _) (by intro u n;simp at n;rcases n with rfl|rfl<;>rfl)
  (by unfold maxLen;omega) (by omega) (by simp;omega) (fun v' w' C q _=>h v' w' ?_ (Zb0 (Below.refl B d) c f q))
 unfold ZhZ;rw [Xd,ZgM];exact C
theorem IIn.cellAt {B:Nat} {b off n c:Nat} {a:List Int} (h:IIn B w (.slice (some ⟨b,off,none⟩) n c) a) {k:Nat} (i:k<a.length) :
  b<B/\w.cell? ⟨b,off+k,none⟩=some (.int .i64 (a.getD k 0)):=by
 obtain ⟨b',e,d,g,f⟩:=h.at_ i;simp only [Xv,Addr.mk.injEq] at d;obtain ⟨rfl,rfl,_⟩:=d;exact ⟨g,f⟩
theorem Znd:Zbi []=[]:=rfl
theorem Zrq {r:Int} {t:List Int} (h:ZU r=false):Zbi (r::t)=Zbi t:=by
 have:=ZiF (p:=[]) (t:=t) (by simp) h;unfold Zbi;rw [Xz,Zpg,Xz] at this;rw [this]
theorem Zto {rest:List Int} {j:Nat} (h:Far all rest ss) (hj:j<=rest.length) (h0:j≠0) (d:∀r∈rest.take j,ZU r=true) (k:j=rest.length\/ZU (rest.getD j 0)=false) :
  Far all (rest.drop j) (ss++[Zfw (rest.take j)]):=by
 have a:rest.take j≠[]:=by
  intro e;have:=Xp List.length e;rw [Xi,Xm] at this;omega
 have i:Zbi rest=Zfw (rest.take j)::Zbi (rest.drop j):=by
  by_cases f:j=rest.length
  ·subst f;rw [Xae,Znd];rw [XC] at d a ⊢;unfold Zbi;rw [Zkg d,Zpf a];rfl
  ·have c:j<rest.length:=by omega
   have b:ZU (rest.getD j 0)=false:=k.resolve_left f;have g:rest.drop j=rest.getD j 0::rest.drop (j+1):=by rw [X9 c];simp [List.getD,c]
   have e:rest=rest.take j++rest.getD j 0::rest.drop (j+1):=by rw [<- g];exact (X6 j rest).symm
   rw [g,Zrq b]
   conv=>lhs;rw [e]
   unfold Zbi;rw [ZiF d b,Zpf a];rfl
 refine ⟨by rw [Xl,Xa8,<- i];exact h.1,?_⟩;have h2:=h.2;rw [Xd,Xj,Xaf];omega
theorem Zxs {rest:List Int} (h:Far all rest ss) (b:0<rest.length) (a:ZU (rest.getD 0 0)=false):Far all (rest.drop 1) ss:=by
 have:=Zqe (k:=0) h b (by simp) a;simpa [Zpg] using this
theorem ZkU (s:ByteArray) (w:World) (hs:s.size<=1000000):Calls prog 71 #[.string s] w (ZwC (ZdX (Z6 s.data.toList)) w):=by
 have B:=UM.ZsK s w hs;have g:=UM.ZfC s.data.toList;rw [<- Lib.size_eq] at g;unfold UM.Zeq at B;unfold Z6;obtain ⟨c,H⟩:=Xn (runesL s.data.toList);rw [H] at B g ⊢;have HR:=hid B;have av:c.length<=1000000:=by omega
 clear B H g;go_enter func71,ntmps71;go_wp2_with fail;refine HR.out.mono ?_;rintro e y ⟨v,rfl,M,R⟩;have O:IIn y.heap.size y v c:=Ze3.irow M;obtain ⟨p,ah,rfl,ax,am⟩:=O.shape;unfold maxLen at am;have HI:=hid O;have ar:=hid R;have ac:=R.size;have aa:Hid (ZhZ y.heap.size y (.slice none 0 0) (ZdX [])):=hid (ZhZ.nil_ _ _);have af:Hid (Far c (c.drop 0) []):=hid ⟨rfl,by simp⟩;have ad:Hid (Below y.heap.size y y):=hid (Below.refl _ _);clear O M R HR;go_wp2_with fail
 go_loopw [3,5] (fun u a wr=>∃(k:Nat) (ss:List Xu),k<=c.length/\a=.int .i64 k/\Hid (Far c (c.drop k) ss)/\Hid (ZhZ y.heap.size wr u (ZdX ss))/\Hid (Below y.heap.size y wr)) (fun _ a _=>c.length - (intOf a).toNat)
 case atStart=>exact ⟨0,[],by omega,rfl,af,aa,ad⟩
 case round =>
  obtain ⟨k,ss,hk,rfl,S,L,C⟩:=hrel;clear af aa ad
  by_cases ak:k<c.length
  ·have t1:decide ((k:Int)<(c.length:Int))=true:=by simp;omega
   obtain ⟨b,off,rfl,_,_⟩:=HI.out.at_ ak;have ag:Hid (∀r∈(c.drop k).take 0,ZU r=true):=hid (by simp);go_wp2_with fail
   go_loopw [6] (fun e wr=>∃m:Nat,k<=m/\m<=c.length/\e=.int .i64 (m:Int)/\Hid (∀r∈(c.drop k).take (m - k),ZU r=true)/\Hid (ZhZ y.heap.size wr u3 (ZdX ss))/\Hid (Below y.heap.size y wr)) (fun e _=>c.length - (intOf e).toNat)
   case atStart=>exact ⟨k,by omega,by omega,rfl,by rw [Xas];exact ag,L,C⟩
   case round =>
    obtain ⟨m,ay,az,rfl,T,L,C⟩:=hrel;clear ag;have aw:=C.out.size
    by_cases ab:m<c.length
    ·have t2:decide ((m:Int)<(c.length:Int))=true:=by simp;omega
     obtain ⟨al,h⟩:=HI.out.cellAt ab;have J:=(C.out.cell (p:=⟨b,off+m,none⟩) al).trans h;have d:=fun W=>UM.ZvK (c.getD m 0) W;obtain ⟨r,o⟩:=Xn (c.getD m 0);rw [o] at J;simp only [o] at d;cases H:ZU r with
     | true =>
       simp only [H] at d;have x:=ZoI (rest:=c.drop k) (k:=m - k) (by rw [Xj];omega) T.out (by rw [XaP,Xbd,show k+(m - k)=m by omega,<- XaP,o];exact H);rw [show m - k+1=m+1 - k by omega] at x;have ap:=hid x;have t:=hid d;clear d H o T x h;go_wp2_with fail;refine (t.out _).mono ?_;rintro e w2 ⟨rfl,rfl⟩;clear t;go_wp2_with fail;go_roundw
       case rel=>exact ⟨m+1,by omega,by omega,by go_num,ap,L,C⟩
       case measure=>simp [intOf];omega
     | false =>
       simp only [H] at d;have t:=hid d
       by_cases au:m=k
       ·subst au;have U:=Zxs S.out (by rw [Xj];omega) (by rw [XaP,Xbd,Xah,<- XaP,o];exact H);rw [XaM] at U;have aq:=hid U;have t4:((m:Int) == (m:Int))=true:=by simp
        clear d H o T U h;go_wp2_with fail;refine (t.out _).mono ?_;rintro e w2 ⟨rfl,rfl⟩;clear t;go_wp2_with fail;go_roundw
        case rel=>exact ⟨m+1,ss,by omega,by go_num,aq,L,C⟩
        case measure=>simp [intOf];omega
       ·go_wp2_with fail;refine (t.out _).mono ?_;rintro e w2 ⟨rfl,rfl⟩;have I:=C;have ao:=L;clear d t h;have i:=Zto S.out (j:=m - k) (by rw [Xj];omega) (by omega) T.out (.inr (by rw [XaP,Xbd,show k+(m - k)=m by omega,<- XaP,o];exact H));rw [XaM,show k+(m - k)=m by omega] at i;have l:=(((HI.out.drop2 k (by omega)).2 (by omega)).take (m - k) (by omega)).below (I.out);have A:=Zq0 _ _ _ (l.row (I.out.size)) (by rw [Xi,Xj];omega);obtain ⟨X,hX⟩:=Xn (Zfw ((c.drop k).take (m - k)));rw [hX] at i A;have N:=hid i;have D:=hid A;have ai:=S.out.2;have t4:((m:Int) == (k:Int))=false:=by simp;omega
        have i1:(k:Int)<=(m:Int):=by omega
        have i2:(m:Int)<=(ah:Int):=by omega
        have i3:((m:Int) - (k:Int)).toNat=m - k:=by omega
        clear i A l hX T;go_wp2_with fail;refine D.out.mono ?_;rintro e w3 ⟨rfl,n⟩;have z:=hid (ao.out.keep n);have E:=hid (I.out.trans (n.mono I.out.size));have F:=E.out.size;have g:=z.out.shape;obtain ⟨q,ae,rfl,Z,an⟩:=g;rw [ZbH] at Z z ⊢;clear n D;go_wp2_with (at_builtin;refine Zfp rfl _ _ rfl y.heap.size _ (ZdX ss) w3 X (ss.length:Int) rfl rfl z.out rfl (by rw [ZbH];omega) F ?_)
        intro v4 w4 f G;rw [<- Zoi] at f;have Y:=hid f;have V:=hid (E.out.trans G);clear f G;go_wp2_with fail;go_roundw
        case rel=>exact ⟨m,ss++[X],by omega,rfl,N,Y,V⟩
        case measure=>simp [intOf];omega
    ·obtain rfl:m=c.length:=by omega
     have t2:decide ((c.length:Int)<(c.length:Int))=false:=by simp
     have i:=Zto S.out (j:=c.length - k) (by rw [Xj];omega) (by omega) T.out (.inl (by rw [Xj]));rw [XaM,show k+(c.length - k)=c.length by omega] at i;have l:=(((HI.out.drop2 k (by omega)).2 (by omega)).take (c.length - k) (by omega)).below (C.out);have A:=Zq0 _ _ _ (l.row (C.out.size)) (by rw [Xi,Xj];omega);obtain ⟨X,hX⟩:=Xn (Zfw ((c.drop k).take (c.length - k)));rw [hX] at i A;have N:=hid i;have D:=hid A;have ai:=S.out.2;have t4:((c.length:Int) == (k:Int))=false:=by simp;omega
     have i1:(k:Int)<=(c.length:Int):=by omega
     have i2:(c.length:Int)<=(ah:Int):=by omega
     have i3:((c.length:Int) - (k:Int)).toNat=c.length - k:=by omega
     clear i A l hX T;go_wp2_with fail;refine D.out.mono ?_;rintro e w3 ⟨rfl,n⟩;have z:=hid (L.out.keep n);have E:=hid (C.out.trans (n.mono C.out.size));have F:=E.out.size;have g:=z.out.shape;obtain ⟨q,ae,rfl,Z,an⟩:=g;rw [ZbH] at Z z ⊢;clear n D;go_wp2_with (at_builtin;refine Zfp rfl _ _ rfl y.heap.size _ (ZdX ss) w3 X (ss.length:Int) rfl rfl z.out rfl (by rw [ZbH];omega) F ?_)
     intro v4 w4 f G;rw [<- Zoi] at f;have Y:=hid f;have V:=hid (E.out.trans G);clear f G;go_wp2_with fail;go_roundw
     case rel=>exact ⟨c.length,ss++[X],by omega,rfl,N,Y,V⟩
     case measure=>simp [intOf];omega
  ·obtain rfl:k=c.length:=by omega
   have t1:decide ((c.length:Int)<(c.length:Int))=false:=by simp
   have hf:=S.out.1;rw [Xae,Znd,XI] at hf;subst hf;have HK:=hid L.out.krow;have aj:=hid (ar.out.trans (C.out.mono ac));clear L S;go_wp2_with fail;go_ret;exact ⟨_,rfl,HK.out,aj.out⟩
