import Derived.Test.YtmomfobdpfajbaaGreatZA28
import Derived.Deep.MidRow
set_option maxRecDepth 100000
set_option maxHeartbeats 0
set_option linter.unusedVariables false
set_option linter.unusedSimpArgs false
namespace Go.Proofs.YtmomfobdpfajbaaGreat
open Tryz
namespace TK
open RowKit MM
open UM (ZQ ZU ZY runesL)
variable {B n g:Nat} {w w':World} {v:Value}
theorem Zua:(prog.info? 134).map (fun i=>(i.zero,i.size,i.bytes))=some (some (.agg #[.string ⟨#[]⟩,.int .i64 0]),2,24):=by kernel_rfl
def ZCT (t:Xu×Int):List Value:=[.string ⟨t.1.toArray⟩,.int .i64 t.2]
def Zbh (a:List (Xu×Int)):List Value:=a.flatMap ZCT
theorem Zen (a:List (Xu×Int)):(Zbh a).length=a.length*2:=by
 induction a with
 | nil=>rfl
 | cons t a ih =>
   have e:Zbh (t::a)=ZCT t++Zbh a:=rfl;rw [e,Xd,ih,Xh];simp [ZCT];omega
theorem ZgH (a b:List (Xu×Int)):Zbh (a++b)=Zbh a++Zbh b:=by simp [Zbh]
theorem Zgz:∀(a:List (Xu×Int)) (i:Nat) (h:i<a.length),(Zbh a)[i*2]? = some (.string ⟨a[i].1.toArray⟩)/\(Zbh a)[i*2+1]? = some (.int .i64 a[i].2)
 | t::a,0,_=>⟨rfl,rfl⟩
 | t::a,i+1,h=>by
   have:=Zgz a i (by simpa using h);have e:Zbh (t::a)=.string ⟨t.1.toArray⟩::.int .i64 t.2::Zbh a:=rfl;rw [e,show (i+1)*2=i*2+1+1 by omega];simpa using this
def ZdV (a:List Xu):List (Xu×Int):=a.zipIdx.map fun p=>(p.1,(p.2:Int))
theorem ZbA (a:List Xu):(ZdV a).length=a.length:=by simp [ZdV]
theorem Zoq (a:List Xu) (x:Xu):ZdV (a++[x])=ZdV a++[(x,(a.length:Int))]:=by simp [ZdV,List.zipIdx_append]
theorem Zjn (a:List Xu) (i:Nat) (h:i<(ZdV a).length):(ZdV a)[i]=(a[i]'(by rw [ZbA] at h;exact h),(i:Int)):=by simp [ZdV]
def KIn (B:Nat) (w:World) (v:Value) (c:List (Xu×Int)):Prop :=
 ∃(p:Option Addr) (a:Nat),v=.slice p c.length a/\c.length<=a/\a<=maxLen /\
   (c=[]\/∃b off,p=some ⟨b,off,none⟩/\b<B/\∀i (h:i<c.length),w.cell? ⟨b,off+i*2,none⟩=some (.string ⟨c[i].1.toArray⟩)/\w.cell? ⟨b,off+i*2+1,none⟩=some (.int .i64 c[i].2))
def Zik (w:World) (v:Value) (a:List (Xu×Int)):Prop:=KIn w.heap.size w v a
theorem KIn.below {e:List (Xu×Int)} (h:KIn B w v e) (d:Below B w w'):KIn B w' v e:=by
 obtain ⟨p,c,m,k,l,h⟩:=h;refine ⟨p,c,m,k,l,?_⟩;rcases h with h|⟨b,off,j,a,f⟩
 ·exact .inl h
 ·exact .inr ⟨b,off,j,a,fun i hi=>by
   rw [d.cell (p:=⟨b,off+i*2,none⟩) a,d.cell (p:=⟨b,off+i*2+1,none⟩) a];exact f i hi⟩
theorem KIn.mono {B':Nat} {c:List (Xu×Int)} (h:KIn B w v c) (hB:B<=B'):KIn B' w v c:=by
 obtain ⟨p,a,k,j,i,h⟩:=h;refine ⟨p,a,k,j,i,?_⟩;rcases h with h|⟨b,off,e,f,d⟩
 ·exact .inl h
 ·exact .inr ⟨b,off,e,by omega,d⟩
theorem Zik.below {b:List (Xu×Int)} (h:Zik w v b) (a:Below w.heap.size w w'):Zik w' v b:=(KIn.below h a).mono a.size
theorem KIn.shape {b:List (Xu×Int)} (h:KIn B w v b):∃p a,v=.slice p b.length a/\b.length<=a/\a<=maxLen:=by
 obtain ⟨p,a,e,d,c,_⟩:=h;exact ⟨p,a,e,d,c⟩
theorem KIn.at_ {p:Option Addr} {d:Nat} {a:List (Xu×Int)} (h:KIn B w (.slice p n d) a) {k:Nat} (e:k<a.length) :
  ∃b off,p=some ⟨b,off,none⟩/\b<B/\w.cell? ⟨b,off+k*2,none⟩=some (.string ⟨a[k].1.toArray⟩)/\w.cell? ⟨b,off+k*2+1,none⟩=some (.int .i64 a[k].2):=by
 obtain ⟨p',cap',f,_,_,h⟩:=h;simp only [Value.slice.injEq] at f;obtain ⟨rfl,_,_⟩:=f;rcases h with h|⟨b,off,j,c,i⟩
 ·subst h;simp at e
 ·exact ⟨b,off,j,c,i k e⟩
def Zh0 (B:Nat) (w:World) (v:Value) (a:List (Xu×Int)):Prop:=w.ownsRow B 134 2 v a.length (Zbh a)
theorem Zh0.nil_ (B:Nat) (w:World):Zh0 B w (.slice none 0 0) []:=World.ownsRow_nil _ _ _ _
theorem Zh0.keep {a:List (Xu×Int)} (h:Zh0 B w v a) (b:Below w.heap.size w w'):Zh0 B w' v a:=Zdc (B:=0) h b
theorem Zh0.krow {b:List (Xu×Int)} (h:Zh0 B w v b):Zik w v b:=by
 rcases h.2 with ⟨rfl,o⟩|⟨g,d,l,rfl,hg,f,e,p,hs,k⟩
 ·have:b=[]:=XP o;subst this;exact ⟨none,0,rfl,Xa _,by unfold maxLen;omega,.inl rfl⟩
 ·refine ⟨some ⟨g,0,none⟩,d,rfl,e,p,.inr ⟨g,0,rfl,(Xq.1 f).1,fun i hi => ?_⟩⟩;have a:=Zgz b i hi
  have c:∀j u,(Zbh b)[j]? = some u->w.cell? ⟨g,0+j,none⟩=some u:=fun j u m=>by
   have:=Lib.cells_of_row f (b.length*2) j u (by rw [k];exact m);rw [ZZ] at this;exact this
  exact ⟨c _ _ a.1,by have:=c _ _ a.2;rw [<- Xat] at this;exact this⟩
theorem Zh0.shape {b:List (Xu×Int)} (h:Zh0 B w v b):∃p a,v=.slice p b.length a/\b.length<=a/\a<=maxLen:=h.krow.shape
def Zw6 (a:List (Xu×Int)) (w:World) (e:Ending) (w':World):Prop:=∃v,e=.returned v/\Zik w' v a/\Below w.heap.size w w'
theorem Ze4 {a:World} (h:Below B a w) {o:Nat} (b:B<=g) (vs:List Value):Below B a (w.setCells g o vs):=by
 induction vs generalizing w o with
 | nil=>exact h
 | cons v vs ih=>exact ih (h.setCell (p:=⟨g,o,none⟩) b v)
def Zcb (w:World) (g:Nat):Prop:=∃a fr,w.heap[g]? = some (.cells a 134 fr)
theorem Zcb.set (h:Zcb w g) (o:Nat) (v:Value):Zcb (w.setCell ⟨g,o,none⟩ v) g:=by
 obtain ⟨a,fr,h⟩:=h;refine ⟨a.setIfInBounds o v,fr,?_⟩;simp [World.setCell,Array.getElem?_modify,h]
theorem Zcb.sets (h:Zcb w g) (o:Nat) (vs:List Value):Zcb (w.setCells g o vs) g:=by
 induction vs generalizing w o with
 | nil=>exact h
 | cons v vs ih=>exact ih (h.set o v) (o+1)
def Zkr (B:Nat) (w:World) (g n:Nat) (a:List (Xu×Int)):Prop:=B<=g/\g<w.heap.size/\w.there g 0 (n*2)/\w.rangeAt g 0 (Zbh a)/\Zcb w g
theorem ZqJ {k:List Value} (h:w.ownsRow B 134 2 (.slice (some ⟨g,0,none⟩) n n) n k):Zkr B w g n []:=by
 rcases h.2 with ⟨c,_⟩|⟨g',f,a,c,l,b,hn,hm,hs,ht⟩
 ·cases c
 ·simp only [Value.slice.injEq,Xx,Addr.mk.injEq] at c;obtain ⟨⟨rfl,_⟩,_,rfl⟩:=c;refine ⟨l,(Xq.1 b).1,fun j d=>⟨?_,frozen_of_row w g _ a _ b⟩,(fun j v d=>by simp [Zbh] at d),⟨a,_,b⟩⟩;have i:∃u,(a.toList.take (n*2))[j]? = some u:=⟨_,XZ (by rw [Xi,Array.length_toList];omega)⟩;obtain ⟨u,e⟩:=i;have:=Lib.cells_of_row b (n*2) j u e;rw [ZZ] at this;rw [this];rfl
theorem Zkr.next {a:List (Xu×Int)} (h:Zkr B w g n a) (hk:a.length<n) (x:Xu) (p:Int) :
  Zkr B (w.setCells g (a.length*2) [.string ⟨x.toArray⟩,.int .i64 p]) g n (a++[(x,p)]):=by
 obtain ⟨l,o,d,k,i⟩:=h
 have e:w.there g (a.length*2) [Value.string ⟨x.toArray⟩,.int .i64 p].length:=fun j b=>by
  have:=d (a.length*2+j) (by simp at b;omega);rw [XL] at this;exact this
 refine ⟨l,?_,World.there_setCells d _ _ _,?_,i.sets _ _⟩
 ·exact XJ o (Ze4 (Below.refl 0 w) (XX _) _).size
 ·have f:=World.rangeAt_setCells_apart k g (a.length*2) [.string ⟨x.toArray⟩,.int .i64 p] (.inr (.inl (by rw [Zen];omega)));have m:=World.rangeAt_setCells_same w g (a.length*2) _ e;intro j v b;rw [ZgH] at b
  by_cases c:j<a.length*2
  ·rw [List.getElem?_append_left (by rw [Zen];exact c)] at b;exact f j v b
  ·rw [Xbw (by rw [Zen];omega),Zen] at b;have:=m (j - a.length*2) v b;rw [show a.length*2+(j - a.length*2)=0+j by omega] at this;exact this
theorem Zkr.krow {b:List (Xu×Int)} (h:Zkr B w g n b) (f:b.length=n) (j:n<=maxLen):Zik w (.slice (some ⟨g,0,none⟩) n n) b:=by
 obtain ⟨h1,k,h3,c,_⟩:=h;subst f;refine ⟨some ⟨g,0,none⟩,b.length,rfl,Xa _,j,.inr ⟨g,0,rfl,k,fun i hi => ?_⟩⟩;have a:=Zgz b i hi;have e:=c _ _ a.1;have d:=c _ _ a.2;rw [<- Xat] at d;exact ⟨e,d⟩
theorem Zng (s:ByteArray) (w:World) (hs:s.size<=1000000):Calls prog 225 #[.string s] w fun e w'=>∃g,e=.returned (.slice (some ⟨g,0,none⟩) (ZdV (Z4 s.data.toList)).length (ZdV (Z4 s.data.toList)).length)/\Zik w' (.slice (some ⟨g,0,none⟩) (ZdV (Z4 s.data.toList)).length (ZdV (Z4 s.data.toList)).length) (ZdV (Z4 s.data.toList))/\Zcb w' g/\w.heap.size<=g/\Below w.heap.size w w':=by
 obtain ⟨i0,hi,N,H,G⟩:=info_parts Zua;have hc:=Zag s.data.toList;rw [<- Lib.size_eq] at hc;have D:=Y4 (ZwL s w hs);obtain ⟨a,F⟩:=Xn (Z4 s.data.toList);rw [F] at hc D ⊢;have ad:a.length<=1000000:=by omega
 clear F hc;obtain ⟨L,T⟩:=Xn (ZdV a);have E:L.length=a.length:=by rw [<- T,ZbA]
 have d:=Y4 E;have J:Y5 (∀i (h:i<L.length) (h':i<a.length),L[i]=(a[i],(i:Int))):=Y4 (by subst T;exact fun i h h'=>Zjn a i h);rw [T];clear T E;go_enter func225,ntmps225;go_wp2_with fail;refine D.z.mono ?_;rintro e c ⟨v,rfl,m,C⟩;obtain ⟨p,af,rfl,ae,ab⟩:=m.shape;unfold maxLen at ab;have HT:=Y4 m.trow;have Z:=Y4 C;have z:=C.size;clear m C D;go_wp2_with (at_make;refine wpList_make_full c rfl _ _ 130 rfl c.heap.size 134 i0 (.agg #[.string ⟨#[]⟩,.int .i64 0]) 2 underlying130 hi N H .i64 .i64 _ _ a.length rfl rfl rfl rfl (by rw [G];omega) (by unfold maxLen;omega) (Xa _) ?_)
 intro w2 r I;have b2:=(Below.refl c.heap.size c).grown I (Xa _) (fun k h=>by cases h);have M:Y5 (Zkr c.heap.size w2 c.heap.size a.length (L.take 0)):=Y4 (ZqJ r);have R:=Y4 b2;clear r I b2 hi N H G;go_wp2_with fail
 go_loopw [14] (fun i wr=>∃k:Nat,k<=a.length/\i=.int .i64 k/\Y5 (Zkr c.heap.size wr c.heap.size a.length (L.take k))/\Y5 (Below c.heap.size c wr)) (fun i _=>a.length - (intOf i).toNat)
 case atStart=>exact ⟨0,by omega,rfl,M,R⟩
 case round =>
  obtain ⟨k,S,rfl,U,X⟩:=hrel;clear M R
  by_cases l:k<a.length
  ·have t1:decide ((k:Int)<(a.length:Int))=true:=by simp;omega
   obtain ⟨b,off,rfl,ac,q⟩:=TIn.at_ HT.z l;have t:=(X.z.cell (p:=⟨b,off+k,none⟩) ac).trans q;have f:(L.take k).length=k:=by rw [Xi,d.z];omega
   have O:L.take (k+1)=L.take k++[(a[k],(k:Int))]:=by
    rw [XG (by rw [d.z];exact l),J.z k (by rw [d.z];exact l) l]
   have u:=U.z.next (by rw [f];exact l) a[k] (k:Int);rw [<- O,f] at u;obtain ⟨x,hx⟩:=Xn (a[k]);rw [hx] at u t
   have y:wr.there c.heap.size (k*2) 2:=fun j hj=>by
    have:=U.z.2.2.1 (k*2+j) (by omega);rw [XL] at this;exact this
   have HS:=Y4 u;obtain ⟨u0,f1⟩:=Xbt.1 (y 0 (by omega)).1;have f2:=(y 0 (by omega)).2;have f3:=((World.there_setCells y c.heap.size (k*2) [.string ⟨x.toArray⟩]) 1 (by omega));obtain ⟨u1,W⟩:=Xbt.1 f3.1;have V:=f3.2;rw [Xad] at f1 f2;have e1:wr.setCells c.heap.size (k*2) [.string ⟨x.toArray⟩]=wr.setCell ⟨c.heap.size,k*2,none⟩ (.string ⟨x.toArray⟩):=rfl;rw [e1] at W V;have aa:=Y4 (Ze4 X.z (g:=c.heap.size) (o:=k*2) (Xa _) [.string ⟨x.toArray⟩,.int .i64 (k:Int)]);clear u y q O hx e1 f3;go_wp2_with fail;go_roundw
   case rel=>exact ⟨k+1,by omega,by go_num,HS,aa⟩
   case measure=>simp [intOf];omega
  ·obtain rfl:k=a.length:=by omega
   have t1:decide ((a.length:Int)<(a.length:Int))=false:=by simp
   have f:L.take a.length=L:=by rw [<- d.z,XB]
   have S:=U.z;rw [f] at S;have HK:=Y4 (S.krow d.z (by unfold maxLen;omega));have Y:=Y4 (Z.z.trans (X.z.mono z));have HG:=Y4 S.2.2.2.2;clear S f U;go_wp2_with fail;go_ret;have A:=d.z;refine ⟨c.heap.size,?_,?_,HG.z,z,Y.z⟩
   ·rw [A];rfl
   ·rw [A];exact HK.z
end TK
namespace TK
open RowKit MM
open UM (ZQ ZU ZY runesL)
variable {w:World} {all:List Int} {ss:List Xu}
theorem ZuQ (w:World) (x y:Value) (t:TypeId):∀j u,[x,y][j]? = some u->(w.alloc (.cells #[x,y] t)).cell? ((⟨w.heap.size,0,none⟩:Addr).add j)=some u:=by
 intro j u a
 match j,a with
 | 0,a=>simp at a;subst a;simp [Addr.add]
 | 1,a=>simp at a;subst a;simp [Addr.add]
 | (j+2),a=>simp at a
theorem Zfk {ops:Array Oper} {rest:List Oper} {o:Oper} {a:Act} {Q:Exit->Act->World->Prop} (i:o.guard=none) (s x:Operand)
  (r:o.op=.call { callee:=.builtin .append,args:=#[s,x],argTypes:=#[130,130] }) (B:Nat) (v:Value) (e:List (Xu×Int)) (d:World) (z:Xu) (p:Int) (A:w=d.alloc (.cells #[.string ⟨z.toArray⟩,.int .i64 p] 134)) (hs:a.eval s=v) (b:Zh0 B d v e)
  (y:a.eval x=.slice (some ⟨d.heap.size,0,none⟩) 1 1) (m:e.length<=1000000000000) (c:B<=d.heap.size)
  (h:∀v' w',Zh0 B w' v' (e++[(z,p)])->Below B d w'->wpList prog ops Q rest (a.put o.dst v') w'):wpList prog ops Q (o::rest) a w:=by
 subst A;obtain ⟨i0,hi,f,g,j⟩:=info_parts Zua;have l:∀k,v.ownBlock=some k->B<=k:=fun k q=>(World.ownsRow.lt b k q).1
 refine wpList_append_own _ i s x 130 r B 134 i0 (.agg #[.string ⟨#[]⟩,.int .i64 0]) 2 24 underlying130 hi f g j rfl (by decide) v e.length _ hs (World.ownsRow.alloc b _) ⟨d.heap.size,0,none⟩ 1 1 [.string ⟨z.toArray⟩,.int .i64 p] y rfl (ZuQ _ _ _ _) (by intro u n;simp at n;rcases n with rfl|rfl<;>rfl)
  (by unfold maxLen;omega) (by omega) (by simp;omega) (fun v' w' t C _=>h v' w' ?_ (ZbZ (Below.refl B d) c l C))
 unfold Zh0;rw [Xd,ZgH];exact t
theorem IIn.cellAt {B:Nat} {b off n c:Nat} {a:List Int} (h:IIn B w (.slice (some ⟨b,off,none⟩) n c) a) {k:Nat} (f:k<a.length) :
  b<B/\w.cell? ⟨b,off+k,none⟩=some (.int .i64 (a.getD k 0)):=by
 obtain ⟨b',e,d,i,g⟩:=h.at_ f;simp only [Xx,Addr.mk.injEq] at d;obtain ⟨rfl,rfl,_⟩:=d;exact ⟨i,g⟩
theorem Znj:Zbl []=[]:=rfl
theorem ZrV {r:Int} {t:List Int} (h:ZU r=false):Zbl (r::t)=Zbl t:=by
 have:=ZiL (p:=[]) (t:=t) (by simp) h;unfold Zbl;rw [XE,Zps,XE] at this;rw [this]
theorem ZtZ {rest:List Int} {j:Nat} (h:Far all rest ss) (hj:j<=rest.length) (h0:j≠0) (d:∀r∈rest.take j,ZU r=true) (i:j=rest.length\/ZU (rest.getD j 0)=false) :
  Far all (rest.drop j) (ss++[Zfs (rest.take j)]):=by
 have a:rest.take j≠[]:=by
  intro e;have:=Xr List.length e;rw [Xi,Xv] at this;omega
 have k:Zbl rest=Zfs (rest.take j)::Zbl (rest.drop j):=by
  by_cases f:j=rest.length
  ·subst f;rw [Xaf,Znj];rw [XB] at d a ⊢;unfold Zbl;rw [Zkl d,Zpr a];rfl
  ·have c:j<rest.length:=by omega
   have b:ZU (rest.getD j 0)=false:=i.resolve_left f;have g:rest.drop j=rest.getD j 0::rest.drop (j+1):=by rw [X7 c];simp [List.getD,c]
   have e:rest=rest.take j++rest.getD j 0::rest.drop (j+1):=by rw [<- g];exact (X8 j rest).symm
   rw [g,ZrV b]
   conv=>lhs;rw [e]
   unfold Zbl;rw [ZiL d b,Zpr a];rfl
 refine ⟨by rw [Xk,Xa8,<- k];exact h.1,?_⟩;have h2:=h.2;rw [Xd,Xp,Xai];omega
theorem ZxW {rest:List Int} (h:Far all rest ss) (b:0<rest.length) (a:ZU (rest.getD 0 0)=false):Far all (rest.drop 1) ss:=by
 have:=Zqx (k:=0) h b (by simp) a;simpa [Zps] using this
theorem Zk1 (s:ByteArray) (w:World) (hs:s.size<=1000000):Calls prog 71 #[.string s] w (Zw6 (ZdV (Z4 s.data.toList)) w):=by
 have B:=UM.Zth s w hs;have g:=UM.Zfy s.data.toList;rw [<- Lib.size_eq] at g;unfold UM.Zeo at B;unfold Z4;obtain ⟨c,H⟩:=Xn (runesL s.data.toList);rw [H] at B g ⊢;have HR:=Y4 B;have av:c.length<=1000000:=by omega
 clear B H g;go_enter func71,ntmps71;go_wp2_with fail;refine HR.z.mono ?_;rintro e z ⟨v,rfl,M,Y⟩;have U:IIn z.heap.size z v c:=ZbU.irow M;obtain ⟨p,ah,rfl,ax,ap⟩:=U.shape;unfold maxLen at ap;have HI:=Y4 U;have an:=Y4 Y;have ad:=Y.size;have ab:Y5 (Zh0 z.heap.size z (.slice none 0 0) (ZdV [])):=Y4 (Zh0.nil_ _ _);have ag:Y5 (Far c (c.drop 0) []):=Y4 ⟨rfl,by simp⟩;have ae:Y5 (Below z.heap.size z z):=Y4 (Below.refl _ _);clear U M Y HR;go_wp2_with fail
 go_loopw [3,5] (fun u a wr=>∃(k:Nat) (ss:List Xu),k<=c.length/\a=.int .i64 k/\Y5 (Far c (c.drop k) ss)/\Y5 (Zh0 z.heap.size wr u (ZdV ss))/\Y5 (Below z.heap.size z wr)) (fun _ a _=>c.length - (intOf a).toNat)
 case atStart=>exact ⟨0,[],by omega,rfl,ag,ab,ae⟩
 case round =>
  obtain ⟨k,ss,hk,rfl,V,L,C⟩:=hrel;clear ag ab ae
  by_cases am:k<c.length
  ·have t1:decide ((k:Int)<(c.length:Int))=true:=by simp;omega
   obtain ⟨b,off,rfl,_,_⟩:=HI.z.at_ am;have ac:Y5 (∀r∈(c.drop k).take 0,ZU r=true):=Y4 (by simp);go_wp2_with fail
   go_loopw [6] (fun e wr=>∃m:Nat,k<=m/\m<=c.length/\e=.int .i64 (m:Int)/\Y5 (∀r∈(c.drop k).take (m - k),ZU r=true)/\Y5 (Zh0 z.heap.size wr u3 (ZdV ss))/\Y5 (Below z.heap.size z wr)) (fun e _=>c.length - (intOf e).toNat)
   case atStart=>exact ⟨k,by omega,by omega,rfl,by rw [Xaw];exact ac,L,C⟩
   case round =>
    obtain ⟨m,az,ay,rfl,N,L,C⟩:=hrel;clear ac;have aw:=C.z.size
    by_cases aa:m<c.length
    ·have t2:decide ((m:Int)<(c.length:Int))=true:=by simp;omega
     obtain ⟨ar,h⟩:=HI.z.cellAt aa;have I:=(C.z.cell (p:=⟨b,off+m,none⟩) ar).trans h;have d:=fun W=>UM.Zwf (c.getD m 0) W;obtain ⟨r,o⟩:=Xn (c.getD m 0);rw [o] at I;simp only [o] at d;cases H:ZU r with
     | true =>
       simp only [H] at d;have y:=ZoS (rest:=c.drop k) (k:=m - k) (by rw [Xp];omega) N.z (by rw [XaO,Xbe,show k+(m - k)=m by omega,<- XaO,o];exact H);rw [show m - k+1=m+1 - k by omega] at y;have ao:=Y4 y;have A:=Y4 d;clear d H o N y h;go_wp2_with fail;refine (A.z _).mono ?_;rintro e w2 ⟨rfl,rfl⟩;clear A;go_wp2_with fail;go_roundw
       case rel=>exact ⟨m+1,by omega,by omega,by go_num,ao,L,C⟩
       case measure=>simp [intOf];omega
     | false =>
       simp only [H] at d;have A:=Y4 d
       by_cases aj:m=k
       ·subst aj;have R:=ZxW V.z (by rw [Xp];omega) (by rw [XaO,Xbe,Xad,<- XaO,o];exact H);rw [XaI] at R;have ai:=Y4 R;have t4:((m:Int) == (m:Int))=true:=by simp
        clear d H o N R h;go_wp2_with fail;refine (A.z _).mono ?_;rintro e w2 ⟨rfl,rfl⟩;clear A;go_wp2_with fail;go_roundw
        case rel=>exact ⟨m+1,ss,by omega,by go_num,ai,L,C⟩
        case measure=>simp [intOf];omega
       ·go_wp2_with fail;refine (A.z _).mono ?_;rintro e w2 ⟨rfl,rfl⟩;have J:=C;have al:=L;clear d A h;have i:=ZtZ V.z (j:=m - k) (by rw [Xp];omega) (by omega) N.z (.inr (by rw [XaO,Xbe,show k+(m - k)=m by omega,<- XaO,o];exact H));rw [XaI,show k+(m - k)=m by omega] at i;have l:=(((HI.z.drop2 k (by omega)).2 (by omega)).take (m - k) (by omega)).below (J.z);have x:=Zrp _ _ _ (l.row (J.z.size)) (by rw [Xi,Xp];omega);obtain ⟨X,hX⟩:=Xn (Zfs ((c.drop k).take (m - k)));rw [hX] at i x;have O:=Y4 i;have E:=Y4 x;have au:=V.z.2;have t4:((m:Int) == (k:Int))=false:=by simp;omega
        have i1:(k:Int)<=(m:Int):=by omega
        have i2:(m:Int)<=(ah:Int):=by omega
        have i3:((m:Int) - (k:Int)).toNat=m - k:=by omega
        clear i x l hX N;go_wp2_with fail;refine E.z.mono ?_;rintro e w3 ⟨rfl,t⟩;have n:=Y4 (al.z.keep t);have G:=Y4 (J.z.trans (t.mono J.z.size));have D:=G.z.size;have g:=n.z.shape;obtain ⟨q,af,rfl,S,aq⟩:=g;rw [ZbA] at S n ⊢;clear t E;go_wp2_with (at_builtin;refine Zfk rfl _ _ rfl z.heap.size _ (ZdV ss) w3 X (ss.length:Int) rfl rfl n.z rfl (by rw [ZbA];omega) D ?_)
        intro v4 w4 f F;rw [<- Zoq] at f;have Z:=Y4 f;have T:=Y4 (G.z.trans F);clear f F;go_wp2_with fail;go_roundw
        case rel=>exact ⟨m,ss++[X],by omega,rfl,O,Z,T⟩
        case measure=>simp [intOf];omega
    ·obtain rfl:m=c.length:=by omega
     have t2:decide ((c.length:Int)<(c.length:Int))=false:=by simp
     have i:=ZtZ V.z (j:=c.length - k) (by rw [Xp];omega) (by omega) N.z (.inl (by rw [Xp]));rw [XaI,show k+(c.length - k)=c.length by omega] at i;have l:=(((HI.z.drop2 k (by omega)).2 (by omega)).take (c.length - k) (by omega)).below (C.z);have x:=Zrp _ _ _ (l.row (C.z.size)) (by rw [Xi,Xp];omega);obtain ⟨X,hX⟩:=Xn (Zfs ((c.drop k).take (c.length - k)));rw [hX] at i x;have O:=Y4 i;have E:=Y4 x;have au:=V.z.2;have t4:((c.length:Int) == (k:Int))=false:=by simp;omega
     have i1:(k:Int)<=(c.length:Int):=by omega
     have i2:(c.length:Int)<=(ah:Int):=by omega
     have i3:((c.length:Int) - (k:Int)).toNat=c.length - k:=by omega
     clear i x l hX N;go_wp2_with fail;refine E.z.mono ?_;rintro e w3 ⟨rfl,t⟩;have n:=Y4 (L.z.keep t);have G:=Y4 (C.z.trans (t.mono C.z.size));have D:=G.z.size;have g:=n.z.shape;obtain ⟨q,af,rfl,S,aq⟩:=g;rw [ZbA] at S n ⊢;clear t E;go_wp2_with (at_builtin;refine Zfk rfl _ _ rfl z.heap.size _ (ZdV ss) w3 X (ss.length:Int) rfl rfl n.z rfl (by rw [ZbA];omega) D ?_)
     intro v4 w4 f F;rw [<- Zoq] at f;have Z:=Y4 f;have T:=Y4 (G.z.trans F);clear f F;go_wp2_with fail;go_roundw
     case rel=>exact ⟨c.length,ss++[X],by omega,rfl,O,Z,T⟩
     case measure=>simp [intOf];omega
  ·obtain rfl:k=c.length:=by omega
   have t1:decide ((c.length:Int)<(c.length:Int))=false:=by simp
   have hf:=V.z.1;rw [Xaf,Znj,XH] at hf;subst hf;have HK:=Y4 L.z.krow;have ak:=Y4 (an.z.trans (C.z.mono ad));clear L V;go_wp2_with fail;go_ret;exact ⟨_,rfl,HK.z,ak.z⟩
end TK
namespace TK
open RowKit MM
open UM (ZQ ZU ZY runesL)
def ZbT (b:Bool) (w:World) (e:Ending) (w':World):Prop:=e=.returned (.bool b)/\Below w.heap.size w w'
theorem Zwg (u v:Value) (d:List Xu) (w:World) (l:ZcF w u d) (m:ZcF w v d):Calls prog 24 #[u,v] w (ZbT true w):=by
 obtain ⟨p,cp,rfl,z,n⟩:=l.shape;obtain ⟨q,cq,rfl,A,y⟩:=m.shape;unfold maxLen at n;have C:=Y4 l;have x:=Y4 m;have h:Y5 (Below w.heap.size w w):=Y4 (Below.refl _ _);clear l m;go_enter func24,ntmps24;go_wp2
 go_loopw [5] (fun i wr=>∃k:Nat,k<=d.length/\i=.int .i64 k/\Y5 (Below w.heap.size w wr)) (fun i _=>d.length - (intOf i).toNat)
 case atStart=>exact ⟨0,XX _,rfl,h⟩
 case round =>
  obtain ⟨k,hk,rfl,j⟩:=hrel;clear h
  by_cases f:k<d.length
  ·obtain ⟨b,off,rfl,o,c⟩:=TIn.at_ C.z f;obtain ⟨B,g,rfl,e,a⟩:=TIn.at_ x.z f;rw [<- j.z.cell (p:=⟨b,off+k,none⟩) o] at c;rw [<- j.z.cell (p:=⟨B,g+k,none⟩) e] at a;obtain ⟨r,s⟩:∃r:ByteArray,⟨(d[k]).toArray⟩=r:=⟨_,rfl⟩;rw [s] at c a;have t:(k:Int)<(d.length:Int):=by omega
   clear s;go_wp2;go_quiet (fail)
   go_wp2;go_roundw
   case rel=>exact ⟨k+1,by omega,by go_num,Y4 (MM.below_drewN j.z _)⟩
   case measure=>simp [intOf];omega
  ·obtain rfl:k=d.length:=by omega
   go_wp2;go_ret;exact ⟨rfl,j.z⟩
