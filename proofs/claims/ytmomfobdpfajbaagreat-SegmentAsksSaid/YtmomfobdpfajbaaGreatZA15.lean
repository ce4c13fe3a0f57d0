import Derived.Test.YtmomfobdpfajbaaGreatZA5
import Derived.Deep.MidRow
import Derived.Test.YtmomfobdpfajbaaGreatZA14
set_option maxRecDepth 100000
set_option maxHeartbeats 0
set_option linter.unusedVariables false
set_option linter.unusedSimpArgs false
namespace Go.Proofs.YtmomfobdpfajbaaGreat
open Tryz
namespace PW
open RowKit MM PM
variable {S T:Nat->Prop} {w w':World} {v:Value} {zs:List Int} {B n cap k g:Nat} {p:Option Addr}
theorem Zyk:(prog.info? 125).map (fun i=>(i.zero,i.size,i.bytes))=some (some (.agg #[.int .i64 0,.slice none 0 0]),2,32):=by kernel_rfl
def IOn (S:Nat->Prop) (w:World) (v:Value) (zs:List Int):Prop :=
 ∃(p:Option Addr) (cap:Nat),v=.slice p zs.length cap/\zs.length<=cap/\cap<=maxLen/\(p=none->cap=0) /\
   (zs=[]\/∃b off,p=some ⟨b,off,none⟩/\b<w.heap.size/\S b/\∀i (h:i<zs.length),w.cell? ⟨b,off+i,none⟩=some (.int .i64 zs[i]))
theorem IOn.keep (h:IOn S w v zs) (c:Kep S w w') (e:∀b,b<w.heap.size->S b->T b):IOn T w' v zs:=by
 obtain ⟨p,cap,q,o,m,l,h⟩:=h;refine ⟨p,cap,q,o,m,l,?_⟩;rcases h with h|⟨b,off,j,a,d,f⟩
 ·exact .inl h
 ·exact .inr ⟨b,off,j,XJ a c.size,e b a d,fun i hi=>by rw [c.cell a d];exact f i hi⟩
theorem IOn.weak (h:IOn S w v zs) (a:∀b,b<w.heap.size->S b->T b):IOn T w v zs:=h.keep (Kep.refl _ _) a
theorem ZqU (h:ZaY B w v (zs.map (Value.int .i64))) (m:B<=w.heap.size):IOn (fun b=>b<B) w v zs:=by
 obtain ⟨p,cap,d,c,l,j,h⟩:=h;rw [XF] at d c;refine ⟨p,cap,d,c,l,j,?_⟩;rcases h with h|⟨b,off,f,a,e⟩
 ·exact .inl (Xbf.1 h)
 ·exact .inr ⟨b,off,f,XJ a m,a,fun i hi=>e i _ (by rw [Xa1,XZ hi];rfl)⟩
theorem IOn.shape (h:IOn S w v zs):∃p cap,v=.slice p zs.length cap/\zs.length<=cap/\cap<=maxLen/\(p=none->cap=0):=by
 obtain ⟨p,cap,d,a,c,b,_⟩:=h;exact ⟨p,cap,d,a,c,b⟩
theorem IOn.nil_ (S:Nat->Prop) (w:World):IOn S w (.slice none 0 0) []:=⟨none,0,rfl,Xa _,by unfold maxLen;omega,fun _=>rfl,.inl rfl⟩
theorem IOn.at_ (h:IOn S w (.slice p n cap) zs) (c:k<zs.length) :
  ∃b off,p=some ⟨b,off,none⟩/\b<w.heap.size/\S b/\w.cell? ⟨b,off+k,none⟩=some (.int .i64 zs[k]):=by
 obtain ⟨p',cap',d,_,_,_,h⟩:=h;simp only [Value.slice.injEq] at d;obtain ⟨rfl,_,_⟩:=d;rcases h with h|⟨b,off,i,a,e,f⟩
 ·subst h;simp at c
 ·exact ⟨b,off,i,a,e,f k c⟩
def Zkh (a:List (Int×Value)):List Value:=a.flatMap fun t=>[.int .i64 t.1,t.2]
theorem Zjt (a:List (Int×Value)):(Zkh a).length=a.length*2:=by
 induction a with
 | nil=>rfl
 | cons t b ih =>
   have e:Zkh (t::b)=[.int .i64 t.1,t.2]++Zkh b:=rfl;rw [e,Xd,ih,Xh];simp;omega
theorem Zrm (a b:List (Int×Value)):Zkh (a++b)=Zkh a++Zkh b:=by simp [Zkh]
theorem ZmV:∀(a:List (Int×Value)) (i:Nat) (h:i<a.length),(Zkh a)[i*2]? = some (.int .i64 a[i].1)/\(Zkh a)[i*2+1]? = some a[i].2
 | t::ts,0,_=>⟨rfl,rfl⟩
 | t::ts,i+1,h=>by
   have:=ZmV ts i (by simpa using h);have e:Zkh (t::ts)=.int .i64 t.1::t.2::Zkh ts:=rfl;rw [e,show (i+1)*2=i*2+1+1 by omega];simpa using this
def Zd7 (S:Nat->Prop) (w:World) (a:List (Int×Value)) (ps:List Zk):Prop:=a.length=ps.length/\∀i (h:i<a.length) (h':i<ps.length),a[i].1=ps[i].1/\IOn S w a[i].2 ps[i].2
theorem Zd7.keep {c:List (Int×Value)} {ps:List Zk} (h:Zd7 S w c ps) (d:Kep S w w') (e:∀b,b<w.heap.size->S b->T b):Zd7 T w' c ps :=
 ⟨h.1,fun i hi a=>⟨(h.2 i hi a).1,(h.2 i hi a).2.keep d e⟩⟩
theorem Zd7.snoc {b:List (Int×Value)} {ps:List Zk} (h:Zd7 S w b ps) {z:Int} {x:Value} {qs:List Int} (f:IOn S w x qs):Zd7 S w (b++[(z,x)]) (ps++[(z,qs)]):=by
 refine ⟨by rw [Xd,Xd,h.1];rfl,fun i hi c => ?_⟩;rw [Xd,Xai] at hi c
 by_cases a:i<b.length
 ·rw [Xa9 a,Xa9 (by rw [<- h.1];exact a)];exact h.2 i a (by rw [<- h.1];exact a)
 ·obtain rfl:i=b.length:=by omega
  have e:=h.1;have d:(b++[(z,x)])[b.length]'(by simp)=(z,x):=by simp
  have j:(ps++[(z,qs)])[b.length]'(by simp [e])=(z,qs):=by simp [e]
  rw [d,j];exact ⟨rfl,f⟩
def POn (S:Nat->Prop) (w:World) (v:Value) (ps:List Zk):Prop :=
 ∃(p:Option Addr) (cap:Nat) (a:List (Int×Value)),v=.slice p ps.length cap/\ps.length<=cap/\cap<=maxLen/\(p=none->cap=0)/\Zd7 S w a ps /\
   (ps=[]\/∃b off,p=some ⟨b,off,none⟩/\b<w.heap.size/\S b/\∀i (h:i<a.length),w.cell? ⟨b,off+i*2,none⟩=some (.int .i64 a[i].1)/\w.cell? ⟨b,off+i*2+1,none⟩=some a[i].2)
theorem POn.keep {ps:List Zk} (h:POn S w v ps) (c:Kep S w w') (e:∀b,b<w.heap.size->S b->T b):POn T w' v ps:=by
 obtain ⟨p,cap,q,l,r,s,m,o,h⟩:=h;refine ⟨p,cap,q,l,r,s,m,o.keep c e,?_⟩;rcases h with h|⟨b,off,j,a,d,f⟩
 ·exact .inl h
 ·exact .inr ⟨b,off,j,XJ a c.size,e b a d,fun i hi=>by rw [c.cell a d,c.cell a d];exact f i hi⟩
theorem POn.weak {ps:List Zk} (h:POn S w v ps) (a:∀b,b<w.heap.size->S b->T b):POn T w v ps:=h.keep (Kep.refl _ _) a
def Za7 (w:World) (v:Value) (ps:List Zk):Prop:=POn (fun _=>True) w v ps
theorem POn.row {ps:List Zk} (h:POn S w v ps):Za7 w v ps:=h.weak fun _ _ _=>trivial
theorem Za7.below {ps:List Zk} (h:Za7 w v ps) (a:Below w.heap.size w w'):Za7 w' v ps:=h.keep (Za _ a) fun _ _ h=>h
theorem Za7.pon {ps:List Zk} (h:Za7 w v ps):POn (fun b=>b<w.heap.size) w v ps:=h.weak fun _ h _=>h
theorem POn.shape {ps:List Zk} (h:POn S w v ps):∃p cap,v=.slice p ps.length cap/\ps.length<=cap/\cap<=maxLen/\(p=none->cap=0):=by
 obtain ⟨p,cap,xs,d,c,b,a,_⟩:=h;exact ⟨p,cap,d,c,b,a⟩
theorem POn.at_ {ps:List Zk} (h:POn S w (.slice p n cap) ps) (c:k<ps.length) :
  ∃b off x,p=some ⟨b,off,none⟩/\b<w.heap.size/\S b/\w.cell? ⟨b,off+k*2,none⟩=some (.int .i64 ps[k].1)/\w.cell? ⟨b,off+k*2+1,none⟩=some x/\IOn S w x ps[k].2:=by
 obtain ⟨p',cap',i,e,_,_,_,f,h⟩:=h;simp only [Value.slice.injEq] at e;obtain ⟨rfl,_,_⟩:=e;rcases h with h|⟨b,off,q,d,m,o⟩
 ·subst h;simp at c
 ·have a:k<i.length:=by rw [f.1];exact c
  have j:=f.2 k a c;have l:=o k a;exact ⟨b,off,i[k].2,q,d,m,by rw [<- j.1];exact l.1,l.2,j.2⟩
theorem POn.nil_ (S:Nat->Prop) (w:World):POn S w (.slice none 0 0) []:=⟨none,0,[],rfl,Xa _,by unfold maxLen;omega,fun _=>rfl,⟨rfl,fun i h=>by simp at h⟩,.inl rfl⟩
theorem Ze4 {a:World} (h:Below B a w) {o:Nat} (b:B<=g) (vs:List Value):Below B a (w.setCells g o vs):=by
 induction vs generalizing w o with
 | nil=>exact h
 | cons v vs ih=>exact ih (h.setCell (p:=⟨g,o,none⟩) b v)
theorem Zvz (a:¬S g) (vs:List Value) (o:Nat):Kep S w (w.setCells g o vs):=by
 induction vs generalizing w o with
 | nil=>exact Kep.refl _ _
 | cons v vs ih=>exact (Zy a v).trans (ih _)
def Ze3 (w:World) (g n:Nat) (a:List (Int×Value)):Prop:=g<w.heap.size/\w.there g 0 (n*2)/\w.rangeAt g 0 (Zkh a)
theorem ZqK {i:List Value} (h:w.ownsRow B 125 2 (.slice (some ⟨g,0,none⟩) n n) n i):Ze3 w g n []:=by
 rcases h.2 with ⟨b,_⟩|⟨g',cap,a,b,hb,c,hn,hm,hs,ht⟩
 ·cases b
 ·simp only [Value.slice.injEq,Xx,Addr.mk.injEq] at b;obtain ⟨⟨rfl,_⟩,_,rfl⟩:=b;refine ⟨(Xq.1 c).1,fun j d=>⟨?_,frozen_of_row w g _ a _ c⟩,fun j v d=>by simp [Zkh] at d⟩;have f:∃u,(a.toList.take (n*2))[j]? = some u:=⟨_,XZ (by rw [Xi,Array.length_toList];omega)⟩;obtain ⟨u,e⟩:=f;have:=Lib.cells_of_row c (n*2) j u e;rw [ZZ] at this;rw [this];rfl
theorem Ze3.next {a:List (Int×Value)} (h:Ze3 w g n a) (hk:a.length<n) (p:Int) (x:Value) :
  Ze3 (w.setCells g (a.length*2) [.int .i64 p,x]) g n (a++[(p,x)]):=by
 obtain ⟨m,d,i⟩:=h
 have e:w.there g (a.length*2) [Value.int .i64 p,x].length:=fun j b=>by
  have:=d (a.length*2+j) (by simp at b;omega);rw [XL] at this;exact this
 refine ⟨?_,World.there_setCells d _ _ _,?_⟩
 ·exact XJ m (Ze4 (Below.refl 0 w) (XX _) _).size
 ·have f:=World.rangeAt_setCells_apart i g (a.length*2) [.int .i64 p,x] (.inr (.inl (by rw [Zjt];omega)));have l:=World.rangeAt_setCells_same w g (a.length*2) _ e;intro j v b;rw [Zrm] at b
  by_cases c:j<a.length*2
  ·rw [List.getElem?_append_left (by rw [Zjt];exact c)] at b;exact f j v b
  ·rw [Xbw (by rw [Zjt];omega),Zjt] at b;have:=l (j - a.length*2) v b;rw [show a.length*2+(j - a.length*2)=0+j by omega] at this;exact this
theorem Ze3.keep {i:List (Int×Value)} (h:Ze3 w g n i) (d:Kep S w w') (o:S g):Ze3 w' g n i:=by
 obtain ⟨f,m,l⟩:=h;have c:=d.block g f o;refine ⟨XJ f d.size,fun j b => ?_,fun j v b => ?_⟩
 ·have:=m j b;rw [World.cell?_of_block (a:=⟨g,0+j,none⟩) c];refine ⟨this.1,?_⟩;have e:=this.2;unfold World.frozen? at e ⊢;simp only [c];exact e
 ·rw [World.cell?_of_block (a:=⟨g,0+j,none⟩) c];exact l j v b
end PW
namespace PW
open RowKit MM PM
variable {B g n:Nat} {w:World} {zs:List Int}
theorem Zqr (ps:List Zk):(Zeh ps).length=ps.length:=by simp [Zeh]
theorem ZhJ (ps:List Zk) (k:Nat) (h:k<ps.length):(Zeh ps).getD k 0=ps[k].1:=by simp [Zeh,h]
def ZwX (zs:List Int) (w:World) (e:Ending) (w':World):Prop:=∃v,e=.returned v/\ZbU w.heap.size w' v zs/\Below w.heap.size w w'
theorem ZbU.ion {v:Value} (h:ZbU B w v zs):IOn (fun _=>True) w v zs:=(ZqU (B:=w.heap.size) h.irow (Xa _)).weak fun _ _ _=>trivial
def ZeC (w:World) (g n:Nat) (zs:List Int):Prop:=g<w.heap.size/\∃a,w.heap[g]? = some (.cells a 3)/\a.size=n/\zs.length<=n/\a.toList.take zs.length=zs.map (Value.int .i64)
theorem ZkJ {e:List Value} (h:w.ownsRow B 3 1 (.slice (some ⟨g,0,none⟩) n n) n e):ZeC w g n []:=by
 rcases h.2 with ⟨a,_⟩|⟨g',d,b,a,hb,c,hn,hm,hs,ht⟩
 ·cases a
 ·simp only [Value.slice.injEq,Xx,Addr.mk.injEq] at a;obtain ⟨⟨rfl,_⟩,_,rfl⟩:=a;exact ⟨(Xq.1 c).1,b,c,by omega,by simp,by simp⟩
theorem ZeC.next (h:ZeC w g n zs) (hk:zs.length<n) (z:Int):ZeC (w.setCell ⟨g,zs.length,none⟩ (.int .i64 z)) g n (zs++[z]):=by
 obtain ⟨d,a,e,c,h4,b⟩:=h;have:=heap_setCell_same w g zs.length _ _ (.int .i64 z) e;refine ⟨by simpa using d,_,this,by simp [c],by simp;omega,?_⟩;rw [Xd,Xai,XG (by simp;omega)];simp only [Array.toList_setIfInBounds,XM,Xbu];rw [List.take_set_of_le (by omega),b];simp
theorem ZeC.cell (h:ZeC w g n zs) {k:Nat} (hk:k<n):(∃u,w.cell? ⟨g,k,none⟩=some u)/\w.frozen? ⟨g,k,none⟩=false:=by
 obtain ⟨h1,b,a,h3,h4,h5⟩:=h;exact ⟨by rw [cell_of_row w g k _ _ _ a];exact ⟨_,Array.getElem?_eq_getElem (by omega)⟩,frozen_of_row w g k _ _ a⟩
theorem ZeC.own (h:ZeC w g n zs) (c:zs.length=n) (e:n<=maxLen) (d:B<=g):ZbU B w (.slice (some ⟨g,0,none⟩) n n) zs:=by
 obtain ⟨h1,a,f,h3,h4,b⟩:=h;subst c;exact ⟨by simp,.inr ⟨g,zs.length,a,rfl,d,f,Xa _,e,by omega,by rw [XaB];exact b⟩⟩
theorem ZeC.keep {S:Nat->Prop} {w':World} (h:ZeC w g n zs) (b:Kep S w w') (d:S g):ZeC w' g n zs:=by
 obtain ⟨c,a,f,e⟩:=h;exact ⟨XJ c b.size,a,by rw [b.block g c d];exact f,e⟩
end PW
namespace PW
open RowKit MM PM
theorem ZdH (v:Value) (c:List Int) (d:Int) (w:World) (u:IOn (fun _=>True) w v c):Calls prog 239 #[v,.int .i64 d] w fun e w'=>e=.returned (.bool (ZcM d c))/\w=w':=by
 obtain ⟨p,N,rfl,H,D,_⟩:=u.shape;unfold maxLen at D;have M:=Y4 u;obtain ⟨g,f⟩:=Xn (ZcM d c);have t:=Y4 f;have F:Y5 (∀k,k<0->Zhn (-1) c k<c.getD k 0/\c.getD k 0<d):=Y4 (fun k J=>by omega);have o:Y5 (Zhn (-1) c 0 = -1):=Y4 rfl;rw [f];clear u f;go_enter func239,ntmps239;go_wp2_with fail
 go_loop [5,10] (fun a i=>∃(k:Nat) (A:Int),k<=c.length/\i=.int .i64 k/\a=.int .i64 A/\Y5 (Zhn (-1) c k=A)/\Y5 (∀j,j<k->Zhn (-1) c j<c.getD j 0/\c.getD j 0<d)) (fun _ i=>c.length - (intOf i).toNat)
 case atStart=>exact ⟨0, -1,by omega,rfl,rfl,o,F⟩
 case round =>
  obtain ⟨k,A,J,rfl,rfl,G,m⟩:=hrel;clear F o
  by_cases h:k<c.length
  ·have I:decide ((k:Int)<(c.length:Int))=true:=by simp;omega
   obtain ⟨b,off,rfl,O,_,l⟩:=M.z.at_ h;have y:c.getD k 0=c[k]:=by simp [h]
   obtain ⟨z,E⟩:=Xn (c[k]);rw [E] at l y;have s:=Y4 y;have q:=Y4 h;clear E y
   by_cases n:z<=A
   ·have L:decide (z<=A)=true:=by simpa using n
    have hf:g=false:=by
     rw [<- t.z,Bool.eq_false_iff];intro B;have:=((ZhR d c).1 B k q.z).1;rw [G.z,s.z] at this;omega
    subst hf;clear m n;go_wp2_with fail;go_ret;exact ⟨rfl,rfl⟩
   ·have L:decide (z<=A)=false:=by simpa using n
    by_cases r:z>=d
    ·have t3:decide (z>=d)=true:=by simpa using r
     have hf:g=false:=by
      rw [<- t.z,Bool.eq_false_iff];intro B;have:=((ZhR d c).1 B k q.z).2;rw [s.z] at this;omega
     subst hf;clear m n r;go_wp2_with fail;go_ret;exact ⟨rfl,rfl⟩
    ·have t3:decide (z>=d)=false:=by simpa using r
     have x:Y5 (∀j,j<k+1->Zhn (-1) c j<c.getD j 0/\c.getD j 0<d):=Y4 (fun j hj=>by
      by_cases e:j=k
      ·subst e;rw [G.z,s.z];omega
      ·exact m.z j (by omega))
     have C:Y5 (Zhn (-1) c (k+1)=z):=Y4 s.z;clear m n r;go_wp2_with fail
     go_round
     case rel=>exact ⟨k+1,z,by omega,by go_num,rfl,C,x⟩
     case measure=>simp [intOf];omega
  ·obtain rfl:k=c.length:=by omega
   have I:decide ((c.length:Int)<(c.length:Int))=false:=by simp
   have hf:g=true:=by rw [<- t.z,ZhR];exact m.z
   subst hf;clear m;go_wp2_with fail;go_ret;exact ⟨rfl,rfl⟩
theorem ZBn (z:Int) (x:Value) (qs:List Int) (w:World) (f:IOn (fun _=>True) w x qs):Calls prog 242 #[.agg #[.int .i64 z,x]] w fun e w'=>e=.returned (.bool (ZdX (z,qs)))/\Below w.heap.size w w':=by
 obtain ⟨p,g,rfl,l,d,_⟩:=f.shape;unfold maxLen at d;have i:=Y4 (fun W (m:Below w.heap.size w W)=>ZdH _ qs 1048576 W (f.keep (Za _ m) fun _ _ h=>h));have a:Below w.heap.size w (w.alloc (.cells #[.int .i64 z,.slice p qs.length g] 125)):=(Below.refl _ _).alloc (Xa _) _;have b:=Y4 (i.z _ a);have k:=Y4 a;clear i f a
 by_cases c:qs.length=0
 ·have n:((qs.length:Int) == 0)=true:=by rw [Xaj];omega
  have e:ZdX (z,qs)=true:=by
   have:qs=[]:=XP c;subst this;rfl
  rw [e];clear e c;go_enter func242,ntmps242;go_wp2_with fail;go_ret;exact ⟨rfl,k.z⟩
 ·have n:((qs.length:Int) == 0)=false:=Xb
  have e:ZdX (z,qs) = !ZcM 1048576 qs:=by
   unfold ZdX;cases qs with
   | nil=>simp at c
   | cons q qs=>rfl
  rw [e];obtain ⟨R,j⟩:=Xn (ZcM 1048576 qs);rw [j] at b ⊢;clear e c j;go_enter func242,ntmps242;go_wp2_with fail;refine b.z.mono ?_;rintro e w1 ⟨rfl,rfl⟩;go_wp2_with fail;go_ret;exact ⟨rfl,k.z⟩
theorem Zvt (v:Value) (ps:List Zk) (w:World) (l:Za7 w v ps):Calls prog 263 #[v,.func (.func 242) #[] #[]] w fun e w'=>∃n:Int,e=.returned (.int .i64 n)/\decide (n>=0)=ps.any ZdX/\Below w.heap.size w w':=by
 obtain ⟨p,N,rfl,I,y,_⟩:=l.shape;unfold maxLen at y;have L:=Y4 l;obtain ⟨j,c⟩:=Xn (ps.any ZdX);have D:=Y4 c;have F:Y5 ((ps.take 0).any ZdX=false):=Y4 rfl;rw [c];clear l c;go_enter func263,ntmps263;go_wp2_with fail
 go_loopw [8] (fun i wr=>∃k:Nat,k<=ps.length/\i=.int .i64 k/\Y5 ((ps.take k).any ZdX=false)/\Y5 (Below w.heap.size w wr)) (fun i _=>ps.length - (intOf i).toNat)
 case atStart=>exact ⟨0,by omega,rfl,F,Y4 (Below.refl _ _)⟩
 case round =>
  obtain ⟨k,hk,rfl,B,s⟩:=hrel;clear F
  by_cases f:k<ps.length
  ·have J:decide ((k:Int)<(ps.length:Int))=true:=by simp;omega
   obtain ⟨b,off,x,rfl,O,_,A,M,t⟩:=(L.z.below s.z).at_ f
   have g:(ps.take (k+1)).any ZdX=ZdX ps[k]:=by
    rw [XG f,List.any_append,B.z];simp
   have a:=ZBn ps[k].1 x ps[k].2 wr t
   have d:∀r,ZdX ps[k]=r->r=true->j=true:=fun r l h=>by
    rw [<- D.z];exact List.any_eq_true.2 ⟨ps[k],XI f,by rw [l,h]⟩
   obtain ⟨z,E⟩:=Xn (ps[k].1);have G:ZdX (ps[k].1,ps[k].2)=ZdX ps[k]:=rfl;rw [G] at a;rw [E] at A a;obtain ⟨R,u⟩:=Xn (ZdX ps[k]);rw [u] at g a;have H:=Y4 (d R u);obtain ⟨px,cx,rfl,_⟩:=t.shape;generalize ps[k].2.length=nx at *;have C:=Y4 g;have q:=Y4 a;clear t g a E u d G;go_wp2_with fail;refine q.z.mono ?_;rintro e w1 ⟨rfl,o⟩;have m:=Y4 (grow s.z o);clear o q;cases R with
   | true =>
     have:=H.z rfl;subst this;go_wp2_with fail;go_ret;exact ⟨_,rfl,by simp,m.z⟩
   | false =>
     go_wp2_with fail;go_roundw
     case rel=>exact ⟨k+1,by omega,by go_num,C,m⟩
     case measure=>simp [intOf];omega
  ·obtain rfl:k=ps.length:=by omega
   have J:decide ((ps.length:Int)<(ps.length:Int))=false:=by simp
   have hf:j=false:=by rw [<- D.z,<- B.z,XB]
   subst hf;clear B;go_wp2_with fail;go_ret;exact ⟨_,rfl,by simp,s.z⟩
theorem Zo9 (v:Value) (ps:List Zk) (w:World) (b:Za7 w v ps):Calls prog 241 #[v,.func (.func 242) #[] #[]] w fun e w'=>e=.returned (.bool (ps.any ZdX))/\Below w.heap.size w w':=by
 have d:=Y4 (Zvt v ps w b);obtain ⟨p,i,rfl,h,f,_⟩:=b.shape;generalize ps.any ZdX=R at *;clear b;go_enter func241,ntmps241;go_wp2_with fail;refine d.z.mono ?_;rintro e w1 ⟨n,rfl,c,a⟩;have j:=Y4 a;have g:=Y4 c;clear c a d;go_wp2_with fail;go_ret;exact ⟨by rw [<- g.z];rfl,j.z⟩
theorem ZxA (v:Value) (ps:List Zk) (w:World) (E:Za7 w v ps) (hl:ps.length<=1000000000):Calls prog 240 #[v] w (ZwX (Zeh ps) w):=by
 obtain ⟨i0,hi,q,m,B⟩:=info_parts Zgd;obtain ⟨p,aa,rfl,U,I,_⟩:=E.shape;unfold maxLen at I;have Z:=Y4 E;have HL:=Y4 (Zqr ps);have M:=Y4 (ZhJ ps);obtain ⟨D,r⟩:=Xn (Zeh ps);rw [r] at HL M ⊢;clear E r;go_enter func240,ntmps240;go_wp2_with (at_make;refine wpList_make_full w rfl _ _ 69 rfl w.heap.size 3 i0 (.int .i64 0) 1 underlying69 hi q m .i64 .i64 _ _ ps.length rfl rfl rfl rfl (by rw [B];omega) (by unfold maxLen;omega) (Xa _) ?_)
 intro X c n;have N:=(Below.refl w.heap.size w).grown n (Xa _) (fun k h=>by cases h);have o:Y5 (ZeC X w.heap.size ps.length (D.take 0)):=Y4 (ZkJ c);have s:=Y4 N;clear c n N hi q m B;go_wp2_with fail
 go_loopw [11] (fun i wr=>∃k:Nat,k<=ps.length/\i=.int .i64 k/\Y5 (ZeC wr w.heap.size ps.length (D.take k))/\Y5 (Below w.heap.size w wr)) (fun i _=>ps.length - (intOf i).toNat)
 case atStart=>exact ⟨0,by omega,rfl,o,s⟩
 case round =>
  obtain ⟨k,hk,rfl,G,l⟩:=hrel;clear o s
  by_cases a:k<ps.length
  ·have Y:decide ((k:Int)<(ps.length:Int))=true:=by simp;omega
   obtain ⟨b,off,x,rfl,y,_,t,u,L⟩:=Z.z.at_ a;have A:=(l.z.cell (p:=⟨b,off+k*2,none⟩) y).trans t;have O:=(l.z.cell (p:=⟨b,off+k*2+1,none⟩) y).trans u;have f:(D.take k).length=k:=by rw [Xi,HL.z];omega
   have g:D.take (k+1)=D.take k++[ps[k].1]:=by
    rw [XG (by rw [HL.z];exact a)];have:=M.z k a;rw [XaO,XZ (by rw [HL.z];exact a)] at this;rw [<- this];rfl
   obtain ⟨z,J⟩:=Xn (ps[k].1);rw [J] at A g;obtain ⟨V,W,rfl,_⟩:=L.shape;generalize ps[k].2.length=S at *;have e:Below wr.heap.size wr (wr.alloc (.cells #[.int .i64 z,.slice V S W] 125)):=(Below.refl _ _).alloc (Xa _) _;have C:=l.z.size;have j:=G.z.keep (Za (fun _=>True) e) trivial;obtain ⟨⟨u0,f1⟩,f2⟩:=j.cell a;have d:=j.next (by rw [f];exact a) z;rw [f,<- g] at d;have T:=Y4 d;have H:=Y4 ((l.z.trans (e.mono C)).setCell (p:=⟨w.heap.size,k,none⟩) (Xa _) (.int .i64 z));clear L e j d g f J t u;go_wp2_with fail;go_roundw
   case rel=>exact ⟨k+1,by omega,by go_num,T,H⟩
   case measure=>simp [intOf];omega
  ·obtain rfl:k=ps.length:=by omega
   have Y:decide ((ps.length:Int)<(ps.length:Int))=false:=by simp
   have r:D.take ps.length=D:=by rw [<- HL.z,XB]
   have F:=G.z;rw [r] at F;have R:=Y4 (F.own HL.z (by unfold maxLen;omega) (Xa _));clear G F r;go_wp2_with fail;go_ret;exact ⟨_,rfl,R.z,l.z⟩
theorem Zer (v:Value) (ps:List Zk) (w:World) (j:Za7 w v ps) (y:ps.length<=1000000000):Calls prog 189 #[v] w fun e w'=>e=.returned (.int .i64 (if isL ps=true then 0 else 80))/\Below w.heap.size w w':=by
 have k:=Y4 (ZxA v ps w j y);have l:=Y4 (fun W (s:Below w.heap.size w W)=>Zo9 v ps W (j.below s));obtain ⟨p,B,rfl,t,A,_⟩:=j.shape;unfold isL;obtain ⟨D,n⟩:=Xn (Zeh ps);rw [n] at k ⊢;obtain ⟨O,m⟩:=Xn (ps.any ZdX);rw [m] at l ⊢;have a:Y5 (∀W u,ZbU w.heap.size W u D->Calls prog 239 #[u,.int .i64 65536] W fun e w'=>e=.returned (.bool (ZcM 65536 D))/\W=w'):=Y4 (fun W u h=>ZdH u D 65536 W (ZbU.ion h));obtain ⟨R,o⟩:=Xn (ZcM 65536 D);rw [o] at a ⊢;clear j n m o;go_enter func189,ntmps189;go_wp2_with fail;refine k.z.mono ?_;rintro e q ⟨x,rfl,b,c⟩;have r:=Y4 (a.z q x b);have g:=Y4 (l.z q c);have f:=Y4 c;obtain ⟨p1,c1,rfl,_⟩:=(ZbU.irow b).shape;clear l k b c a;cases R with
 | false =>
   go_wp2_with fail;refine r.z.mono ?_;rintro e z ⟨rfl,rfl⟩;go_wp2_with fail;go_ret;exact ⟨rfl,f.z⟩
 | true =>
   go_wp2_with fail;refine r.z.mono ?_;rintro e z ⟨rfl,rfl⟩;go_wp2_with fail;refine g.z.mono ?_;rintro e w3 ⟨rfl,d⟩;have i:=Y4 (grow f.z d);clear d g;cases O with
   | true =>
     go_wp2_with fail;go_ret;exact ⟨rfl,i.z⟩
   | false =>
     go_wp2_with fail;go_ret;exact ⟨rfl,i.z⟩
variable {B:Nat} {w:World} {xs:List Value}
theorem Zvv:(prog.info? 47).map (fun i=>(i.zero,i.size,i.bytes))=some (some (.slice none 0 0),1,24):=by kernel_rfl
def ZuJ (b off n a i:Nat):Value:=.slice (some ⟨b,off+64*i,none⟩) (min 32 (n - 32*i)) (a - 32*i)
def ZeF (b off n a c:Nat):List Value:=(List.range c).map (ZuJ b off n a)
theorem ZjN (b off n a c:Nat):(ZeF b off n a c).length=c:=by simp [ZeF]
theorem Zsc (b off n a c:Nat):ZeF b off n a (c+1)=ZeF b off n a c++[ZuJ b off n a c]:=by simp [ZeF,XaS]
theorem Zp5 (b off n a c i:Nat) (h:i<c):(ZeF b off n a c)[i]? = some (ZuJ b off n a i):=by simp [ZeF,h]
def ZjI (B:Nat) (w:World) (v:Value) (xs:List Value):Prop:=w.ownsRow B 47 1 v xs.length xs
def ZwP (b off n a:Nat) (w:World) (e:Ending) (w':World):Prop:=∃v,e=.returned v/\ZjI w.heap.size w' v (ZeF b off n a (cnt n))/\Below w.heap.size w w'
theorem ZjI.at_ {p:Option Addr} {n c:Nat} (h:ZjI B w (.slice p n c) xs) {k:Nat} {u:Value} (e:xs[k]? = some u) :
  ∃g,p=some ⟨g,0,none⟩/\B<=g/\g<w.heap.size/\w.cell? ⟨g,k,none⟩=some u/\∃a fr,w.heap[g]? = some (.cells a 47 fr):=by
 have i:=(Xak.1 e).1;rcases h.2 with ⟨b,h0⟩|⟨g,cap',a,b,l,d,j,hm,hs,f⟩
 ·omega
 ·simp only [Value.slice.injEq] at b;obtain ⟨rfl,_,_⟩:=b;refine ⟨g,rfl,l,(Xq.1 d).1,?_,a,_,d⟩;have:=Lib.cells_of_row d (xs.length*1) k u (by rw [f];exact e);rw [ZZ,XL] at this;exact this
theorem ZjI.shape {v:Value} (h:ZjI B w v xs):∃p a,v=.slice p xs.length a/\xs.length<=a/\a<=maxLen:=by
 rcases h.2 with ⟨rfl,c⟩|⟨g,a,b,rfl,hg,hh,d,e,_⟩
 ·exact ⟨none,0,by rw [c],by omega,by unfold maxLen;omega⟩
 ·exact ⟨_,a,rfl,d,e⟩
theorem ZjF {ops:Array Oper} {rest:List Oper} {o:Oper} {a:Act} {Q:Exit->Act->World->Prop} (i:o.guard=none) (s x:Operand)
  (n:o.op=.call { callee:=.builtin .append,args:=#[s,x],argTypes:=#[249,249] }) (B:Nat) (v:Value) (xs:List Value) (b:World) (u:Value) (t:w=b.alloc (.cells #[u] 47)) (q:u.oneCell'=true) (hs:a.eval s=v) (d:ZjI B b v xs)
  (r:a.eval x=.slice (some ⟨b.heap.size,0,none⟩) 1 1) (l:xs.length<=100000000000) (c:B<=b.heap.size)
  (h:∀v' w',ZjI B w' v' (xs++[u])->Below B b w'->wpList prog ops Q rest (a.put o.dst v') w'):wpList prog ops Q (o::rest) a w:=by
 subst t;obtain ⟨i0,hi,f,g,j⟩:=info_parts Zvv;have e:Below b.heap.size b (b.alloc (.cells #[u] 47)):=(Below.refl _ _).alloc (Xa _) _
 refine Zfj i s x 249 n B 47 i0 (.slice none 0 0) 24 underlying249 hi f g j rfl v xs.length xs hs (Zdc (B:=0) d e) (.slice (some ⟨b.heap.size,0,none⟩) 1 1) [u] r
  (Row.of_own (ZdO b [u] 47 0 (XX _) (by unfold maxLen;simp))) (fun y k=>by simp at k;subst k;exact q)
  (by unfold maxLen;simp;omega) (by simp;omega) (by simp;omega) (fun v' w' p m=>h v' w' (by unfold ZjI;rw [Xd];exact p) (Below.trans (e.mono c) m))
def Zw5 (b off n a i:Nat) (v:Value):Prop:=∃q c,v=.slice q (n - 32*i) c/\(32*i<n->q=some ⟨b,off+64*i,none⟩/\c=a - 32*i)
theorem ZlK (b off n a:Nat) (q:Option Addr) (w:World) (T:0<n->q=some ⟨b,off,none⟩) (ac:n<=a) (N:a<=maxLen) (hn:n<=1000000000):Calls prog 168 #[.slice q n a,.int .i64 32] w (ZwP b off n a w):=by
 unfold maxLen at N;have p:Y5 (ZjI w.heap.size w (.slice none 0 0) (ZeF b off n a 0)):=Y4 (World.ownsRow_nil _ _ _ _);have l:Y5 (Zw5 b off n a 0 (.slice q n a)):=Y4 ⟨q,a,by rw [XaY,Nat.sub_zero],fun h=>⟨T (by omega),by omega⟩⟩;clear T;go_enter func168,ntmps168;go_wp2_with fail
 go_loopw [0,5] (fun r u wr=>∃i:Nat,i<=cnt n/\Y5 (Zw5 b off n a i r)/\Y5 (ZjI w.heap.size wr u (ZeF b off n a i))/\Y5 (Below w.heap.size w wr)) (fun r _ _=>match r with | .slice _ m _=>m|_=>0)
 case atStart=>exact ⟨0,by omega,l,p,Y4 (Below.refl _ _)⟩
 case round =>
  obtain ⟨i,hi,O,o,G⟩:=hrel;clear p l;obtain ⟨q1,c1,rfl,v⟩:=O.z;have E:=G.z.size;unfold cnt at hi
  by_cases g:32*i<n
  ·obtain ⟨rfl,rfl⟩:=v g;have t1:decide (((n - 32*i:Nat):Int)>0)=true:=Xt;obtain ⟨m,D⟩:=Xn (min 32 (n - 32*i));obtain ⟨r,U⟩:=Xn (n - 32*i);obtain ⟨c,L⟩:=Xn (a - 32*i);have f:=Zsc b off n a i;unfold ZuJ at f;rw [D,L] at f;rw [U] at t1 D ⊢;rw [L];have W:=Y4 f
   have C:Y5 (∀j c2,(c≠m->j=some ⟨b,off+64*i+m*2,none⟩/\c2=c - m)->Zw5 b off n a (i+1) (.slice j (r - m) c2)):=Y4 (fun j c2 h=>⟨j,c2,by rw [show n - 32*(i+1)=r - m by omega],fun R=>by
    obtain ⟨Z,h2⟩:=h (by omega);exact ⟨by rw [Z,show off+64*i+m*2=off+64*(i+1) by omega],by omega⟩⟩)
   have aa:m<=r:=by omega
   have Y:r<=c:=by omega
   have X:0<m:=by omega
   have S:(if (r:Int)<32 then (r:Int) else 32)=(m:Int):=by split<;>omega
   have M:(if 32<(r:Int) then 32 else (r:Int))=(m:Int):=by split<;>omega
   have F:min 32 (r:Int)=(m:Int):=by omega
   have k:(ZeF b off n a i).length<=100000000000:=by rw [ZjN];omega
   have z:i+1<=(n+31) / 32:=by omega
   have ad:=Y4 g;obtain ⟨pu,cu,rfl,I,J⟩:=o.z.shape;have ab:=Y4 D;have y:Y5 (r - m<r):=Y4 (by omega);clear D L g U f hi O;go_wp2_with (at_builtin;refine ZjF rfl _ _ rfl w.heap.size _ (ZeF b off n a i) wr (.slice (some ⟨b,off+64*i,none⟩) m c) rfl rfl rfl o.z rfl k E ?_)
   intro v4 w4 d x;rw [<- W.z] at d;have A:=Y4 d;have t:=Y4 (G.z.trans x);have i1:(m:Int)<=(r:Int):=by omega
   clear d x o I J
   by_cases s:c=m
   ·have e:=Y4 (fun j c2=>C.z j c2 (fun h=>absurd s h));go_wp2_with fail;go_roundw
    case rel=>exact ⟨i+1,z,e.z _ _,A,t⟩
    case measure=>exact y.z
   ·have e:=Y4 (C.z (some ⟨b,off+64*i+m*2,none⟩) (c - m) (fun h=>⟨rfl,rfl⟩));go_wp2_with fail;go_roundw
    case rel=>exact ⟨i+1,z,e,A,t⟩
    case measure=>exact y.z
  ·have V:n - 32*i=0:=by omega
   have ei:i=cnt n:=by unfold cnt;omega
   have H:Y5 (ZjI w.heap.size wr u5 (ZeF b off n a (cnt n))):=by rw [<- ei];exact o
   rw [V];clear o v g O V;go_wp2_with fail;go_ret;exact ⟨_,rfl,H.z,G.z⟩
end PW
namespace PW
open RowKit MM PM
variable {k:Nat}
theorem ZoJ {α:Type} {a b:List α} (hl:a.length=b.length) (h:a.take k=b.take k) (d:k<a.length) (c:a[k]=b[k]'(by omega)):a.take (k+1)=b.take (k+1):=by
 rw [XG d,XG (by omega),h,c]
theorem ZrD {α:Type} {a b:List α} (hl:a.length=b.length) (hk:k<a.length) (c:a[k]≠b[k]'(by omega)):a≠b:=by
 intro e;subst e;exact c rfl
theorem ZrC {α:Type} {a b:List α} (c:a.length=b.length) (h:a.take a.length=b.take a.length):a=b:=by
 rw [XB,c,XB] at h;exact h
theorem Zgv (u v:Value) (c g:List Int) (w:World) (B:IOn (fun _=>True) w u c) (E:IOn (fun _=>True) w v g) :
  Calls prog 32 #[u,v] w fun e w'=>e=.returned (.bool (decide (c=g)))/\Below w.heap.size w w':=by
 obtain ⟨p,cp,rfl,R,F,_⟩:=B.shape;obtain ⟨q,cq,rfl,S,D,_⟩:=E.shape;unfold maxLen at F D;have U:=Y4 B;have O:=Y4 E;clear B E
 by_cases z:c.length=g.length
 ·have HL:=Y4 z;have t0:((c.length:Int) == (g.length:Int))=true:=by rw [Xaj];omega
  obtain ⟨r,f⟩:=Xn (decide (c=g));have H:=Y4 f;rw [f];have J:Y5 (c.take 0=g.take 0):=Y4 rfl;clear z f;go_enter func32,ntmps32;go_wp2_with fail
  go_loopw [5] (fun i wr=>∃k:Nat,k<=c.length/\i=.int .i64 k/\Y5 (c.take k=g.take k)/\Y5 (Below w.heap.size w wr)) (fun i _=>c.length - (intOf i).toNat)
  case atStart=>exact ⟨0,XX _,rfl,J,Y4 (Below.refl _ _)⟩
  case round =>
   obtain ⟨k,hk,rfl,t,s⟩:=hrel;clear J
   by_cases m:k<c.length
   ·have T:decide ((k:Int)<(c.length:Int))=true:=by simp;omega
    have o:k<g.length:=by rw [<- HL.z];exact m
    obtain ⟨b,off,rfl,V,_,n⟩:=(U.z.keep (Za (fun _=>True) s.z) fun _ _ h=>h).at_ m;obtain ⟨b2,M,rfl,I,_,j⟩:=(O.z.keep (Za (fun _=>True) s.z) fun _ _ h=>h).at_ o;have a:=ZoJ HL.z t.z m;have d:=ZrD HL.z m;obtain ⟨x,L⟩:=Xn (c[k]);obtain ⟨y,N⟩:=Xn (g[k]);rw [L] at n a d;rw [N] at j a d;have A:=Y4 a;have G:=Y4 d;clear L N a d
    by_cases l:x=y
    ·subst l;have C:=Y4 (A.z rfl);clear A G t;go_wp2_with fail;go_quiet (fail)
     go_wp2_with fail;go_roundw
     case rel=>exact ⟨k+1,by omega,by go_num,C,Y4 (MM.below_drewN s.z _)⟩
     case measure=>simp [intOf];omega
    ·have t2:(x == y)=false:=by rw [X6];exact l
     have hf:r=false:=by rw [<- H.z];exact Xz (G.z l)
     subst hf;clear A G t l;go_wp2_with fail;go_quiet (fail)
     go_wp2_with fail;go_ret;exact ⟨rfl,MM.below_drewN s.z _⟩
   ·obtain rfl:k=c.length:=by omega
    have T:decide ((c.length:Int)<(c.length:Int))=false:=by simp
    have hf:r=true:=by rw [<- H.z];exact Xs (ZrC HL.z t.z)
    subst hf;clear t;go_wp2_with fail;go_ret;exact ⟨rfl,s.z⟩
 ·have t0:((c.length:Int) == (g.length:Int))=false:=Xb;have hf:decide (c=g)=false:=Xz (fun e=>z (by rw [e]));rw [hf];clear z hf;go_enter func32,ntmps32;go_wp2_with fail;go_ret;exact ⟨rfl,Below.refl _ _⟩
end PW
namespace PW
open RowKit MM PM
variable {z:Int} {qs:List Int}
def Zhf (p:Zk):Bool:=decide (0<=p.1)&&decide (p.1<=65535) && !ZdX p
def ZkO (qs:List Int) (k:Nat):Prop:=0<=qs.getD k 0/\qs.getD k 0<1048576/\(0<k->qs.getD (k - 1) 0<qs.getD k 0)
theorem ZsU (k:Nat) (c:k<qs.length) (h:¬ZkO qs k):Zhf (z,qs)=false:=by
 unfold Zhf;rw [Bool.eq_false_iff];intro b;rw [Xw] at b;have a:=b.2;unfold ZdX at a;rw [Bool.not_eq_true',Bool.or_eq_false_iff,Bool.not_eq_false'] at a;exact h ((ZiK 1048576 qs).1 a.2 k c)
theorem ZvP (b:0<=z) (a:z<=65535) (d:qs.length≠0) (h:∀k,k<qs.length->ZkO qs k):Zhf (z,qs)=true:=by
 have c:=(ZiK 1048576 qs).2 h;unfold Zhf ZdX;cases qs with
 | nil=>simp at d
 | cons q qs=>simp [b,a,c]
theorem ZyX (h:z<0):Zhf (z,qs)=false:=by unfold Zhf;rw [Xz (show ¬ 0<=z by omega)];rfl
theorem ZyW (h:65535<z):Zhf (z,qs)=false:=by unfold Zhf;rw [Xz (show ¬z<=65535 by omega)];simp
theorem ZvO:Zhf (z,[])=false:=by unfold Zhf ZdX;simp
theorem ZBq (z:Int) (x:Value) (qs:List Int) (w:World) (E:IOn (fun _=>True) w x qs):Calls prog 146 #[.agg #[.int .i64 z,x]] w fun e w'=>e=.returned (.bool (Zhf (z,qs)))/\Below w.heap.size w w':=by
 obtain ⟨p,f,rfl,U,Y,_⟩:=E.shape;unfold maxLen at Y;have a:Below w.heap.size w (w.alloc (.cells #[.int .i64 z,.slice p qs.length f] 125)):=(Below.refl _ _).alloc (Xa _) _
 by_cases B:z<0
 ·have t1:decide (z<0)=true:=Xs B;rw [ZyX B];have l:=Y4 a;clear E B a;go_enter func146,ntmps146;go_wp2_with fail;go_ret;exact ⟨rfl,l.z⟩
 have t1:decide (z<0)=false:=Xz B
 by_cases J:65535<z
 ·have t2:decide (z>65535)=true:=Xs J;rw [ZyW J];have l:=Y4 a;clear E B a J;go_enter func146,ntmps146;go_wp2_with fail;go_ret;exact ⟨rfl,l.z⟩
 have t2:decide (z>65535)=false:=Xz (by omega)
 by_cases T:qs.length=0
 ·have t3:((qs.length:Int) == 0)=true:=by rw [Xaj];omega
  have hq:qs=[]:=XP T;have e:Zhf (z,qs)=false:=by rw [hq];exact ZvO
  rw [e];have l:=Y4 a;clear E B a J hq e T;go_enter func146,ntmps146;go_wp2_with fail;go_ret;exact ⟨rfl,l.z⟩
 have t3:((qs.length:Int) == 0)=false:=Xb;have O:=Y4 (fun k hk h=>ZsU (z:=z) (qs:=qs) k hk h);have HT:=Y4 (fun h=>ZvP (z:=z) (qs:=qs) (by omega) (by omega) T h);obtain ⟨q,t⟩:=Xn (Zhf (z,qs));rw [t] at O HT ⊢;have HR:=Y4 (E.keep (Za (fun _=>True) a) fun _ _ h=>h);have l:=Y4 a;have H0:Y5 (∀j,j<0->ZkO qs j):=Y4 (fun j F=>by omega);obtain ⟨n,u⟩:=Xn qs.length;have N:=Y4 u;rw [u] at t3 U a HR l O HT ⊢;have d:=a.size;have V:Y5 ((w.alloc (.cells #[.int .i64 z,.slice p n f] 125)).heap[w.heap.size]? = some (.cells #[.int .i64 z,.slice p n f] 125)):=Y4 (heap_alloc_new _ _);clear E B J T t u;go_enter func146,ntmps146;go_wp2_with fail
 go_loopw [3] (fun i wr=>∃k:Nat,k<=n/\i=.int .i64 k/\Y5 (∀j,j<k->ZkO qs j)/\Y5 (Below (w.alloc (.cells #[.int .i64 z,.slice p n f] 125)).heap.size (w.alloc (.cells #[.int .i64 z,.slice p n f] 125)) wr)) (fun i _=>n - (intOf i).toNat)
 case atStart=>exact ⟨0,by omega,rfl,H0,Y4 (Below.refl _ _)⟩
 case round =>
  obtain ⟨k,hk,rfl,s,c⟩:=hrel;clear H0;have D:=(c.z.block w.heap.size (by simp)).trans V.z;have f0:wr.cell? ⟨w.heap.size,0,none⟩=some (.int .i64 z):=by rw [cell_of_row wr _ 0 _ _ _ D];rfl
  have f1:wr.cell? ⟨w.heap.size,1,none⟩=some (.slice p n f):=by rw [cell_of_row wr _ 1 _ _ _ D];rfl
  by_cases r:k<n
  ·have t4:decide ((k:Int)<(n:Int))=true:=by simp;omega
   have g:k<qs.length:=by rw [N.z];exact r
   obtain ⟨b,off,rfl,ad,_,C⟩:=(HR.z.keep (Za (fun _=>True) c.z) fun _ _ h=>h).at_ g;have G:=fun j (F:j<qs.length)=>(((HR.z.keep (Za (fun _=>True) c.z) fun _ _ h=>h).at_ F));have X:qs.getD k 0=qs[k]:=by simp [g]
   obtain ⟨y,hy⟩:=Xn (qs[k]);rw [hy] at C X;have R:=Y4 X;have ab:=Y4 g;have Z:=Y4 G;clear hy X G D
   by_cases c1:y<0
   ·have s1:decide (y<0)=true:=Xs c1;have hf:q=false:=O.z k r (fun h=>by have:=h.1;rw [R.z] at this;omega);subst hf;clear s c1;go_wp2_with fail;go_quiet (fail)
    go_wp2_with fail;go_ret;exact ⟨rfl,MM.below_drewN (l.z.trans (c.z.mono d)) _⟩
   have s1:decide (y<0)=false:=Xz c1
   by_cases c2:y>1048575
   ·have s2:decide (y>1048575)=true:=Xs c2;have hf:q=false:=O.z k r (fun h=>by have:=h.2.1;rw [R.z] at this;omega);subst hf;clear s c1 c2;go_wp2_with fail;go_quiet (fail)
    go_wp2_with fail;go_ret;exact ⟨rfl,MM.below_drewN (l.z.trans (c.z.mono d)) _⟩
   have s2:decide (y>1048575)=false:=Xz c2
   by_cases c3:0<k
   ·have s3:decide ((k:Int)>0)=true:=by simp;omega
    obtain ⟨m,hm⟩:∃m,k=m+1:=⟨k - 1,by omega⟩;have M:m<qs.length:=by rw [N.z];omega
    obtain ⟨b',aa,I,_,_,o⟩:=Z.z m M;simp only [Xx,Addr.mk.injEq] at I;obtain ⟨rfl,rfl,_⟩:=I;have v:qs.getD (k - 1) 0=qs[m]:=by rw [show k - 1=m by omega];simp [M]
    obtain ⟨W,L⟩:=Xn (qs[m]);rw [L] at o v;have H:=Y4 v;have e1:(k:Int) - 1=(m:Int):=by omega
    have e2:IntKind.i64.wrap (m:Int)=(m:Int):=by rw [IntKind.wrap_i64];omega
    have ac:m<n:=by omega
    have HM:=Y4 hm;clear L v hm
    by_cases S:y<=W
    ·have s4:decide (y<=W)=true:=Xs S;have hf:q=false:=O.z k r (fun h=>by have:=h.2.2 c3;rw [R.z,H.z] at this;omega);subst hf;clear s c1 c2 S;go_wp2_with fail;go_quiet (fail)
     go_wp2_with fail;go_ret;exact ⟨rfl,MM.below_drewN (l.z.trans (c.z.mono d)) _⟩
    ·have s4:decide (y<=W)=false:=Xz S
     have A:Y5 (∀j,j<k+1->ZkO qs j):=Y4 (fun j F=>by
      by_cases e:j=k
      ·subst e;unfold ZkO;rw [R.z,H.z];omega
      ·exact s.z j (by omega))
     clear s c1 c2 S;go_wp2_with fail;go_quiet (fail)
     go_wp2_with fail;go_roundw
     case rel=>exact ⟨k+1,by omega,by go_num,A,Y4 (MM.below_drewN c.z _)⟩
     case measure=>simp [intOf];omega
   ·have s3:decide ((k:Int)>0)=false:=by simp;omega
    have A:Y5 (∀j,j<k+1->ZkO qs j):=Y4 (fun j F=>by
     by_cases e:j=k
     ·subst e;unfold ZkO;rw [R.z];omega
     ·exact s.z j (by omega))
    have s5:decide (0<k)=false:=Xz c3;clear s c1 c2;go_wp2_with fail;go_quiet (fail)
    go_wp2_with fail;go_roundw
    case rel=>exact ⟨k+1,by omega,by go_num,A,Y4 (MM.below_drewN c.z _)⟩
    case measure=>simp [intOf];omega
  ·obtain rfl:k=n:=by omega
   have t4:decide ((k:Int)<(k:Int))=false:=by simp
   have hf:q=true:=HT.z (fun j F=>s.z j F);subst hf;clear s;go_wp2_with fail;go_ret;exact ⟨rfl,l.z.trans (c.z.mono d)⟩
end PW
namespace PW
open RowKit MM PM
def Zpo (ps:List Zk) (k:Nat):Prop:=Zhf (ps.getD k (0,[]))=true/\(0<k->(Zeh ps).getD (k - 1) 0<(Zeh ps).getD k 0)
theorem Zyq (ps:List Zk):isL ps=true↔∀k,k<ps.length->Zpo ps k:=by
 rw [Zpi,ZiK,Zqr];constructor
 ·rintro ⟨b,d⟩ k a;have h:=b k a;rw [ZhJ ps k a] at h;have f:=d ps[k] (XI a);have e:ps.getD k (0,[])=ps[k]:=by simp [a]
  refine ⟨?_,fun i=>by rw [ZhJ ps k a];exact h.2.2 i⟩;rw [e];unfold Zhf ZdX;rw [Xs h.1,Xs (show ps[k].1<=65535 by omega),f.2];cases hq:ps[k].2 with
  | nil=>exact absurd hq f.1
  | cons q qs=>rfl
 ·intro h
  have c:∀k (a:k<ps.length),0<=ps[k].1/\ps[k].1<=65535/\ps[k].2≠[]/\ZcM 1048576 ps[k].2=true:=by
   intro k a;have b:=(h k a).1;rw [show ps.getD k (0,[])=ps[k] by simp [a]] at b;unfold Zhf ZdX at b;simp only [Xw,Xg,Bool.not_eq_true',Bool.or_eq_false_iff,Bool.not_eq_false'] at b;exact ⟨b.1.1,b.1.2,by intro e;rw [e] at b;simp at b,b.2.2⟩
  refine ⟨fun k a => ?_,fun p g => ?_⟩
  ·have b:=c k a;have d:=(h k a).2;rw [ZhJ ps k a] at d ⊢;exact ⟨b.1,by omega,d⟩
  ·obtain ⟨k,a,rfl⟩:=Xbc g;exact ⟨(c k a).2.2.1,(c k a).2.2.2⟩
theorem ZCC (v:Value) (ps:List Zk) (w:World) (hr:Za7 w v ps):Calls prog 89 #[v] w fun e w'=>e=.returned (.bool (isL ps))/\Below w.heap.size w w':=by
 obtain ⟨p,ai,rfl,ag,I,_⟩:=hr.shape;unfold maxLen at I;have HR:=Y4 hr;obtain ⟨B,s⟩:=Xn (isL ps);have HF:Y5 (∀k,k<ps.length->¬Zpo ps k->B=false):=Y4 (fun k hk h=>by rw [<- s,Bool.eq_false_iff];intro hc;exact h ((Zyq ps).1 hc k hk));have HT:Y5 ((∀k,k<ps.length->Zpo ps k)->B=true):=Y4 (fun h=>by rw [<- s];exact (Zyq ps).2 h);have H0:Y5 (∀k,k<0->Zpo ps k):=Y4 (fun k hk=>by omega);rw [s];clear hr s;go_enter func89,ntmps89;go_wp2_with fail
 go_loopw [3] (fun i wr=>∃k:Nat,k<=ps.length/\i=.int .i64 k/\Y5 (∀j,j<k->Zpo ps j)/\Y5 (Below w.heap.size w wr)) (fun i _=>ps.length - (intOf i).toNat)
 case atStart=>exact ⟨0,by omega,rfl,H0,Y4 (Below.refl _ _)⟩
 case round =>
  obtain ⟨k,hk,rfl,J,HB⟩:=hrel;clear H0
  by_cases C:k<ps.length
  ·have t4:decide ((k:Int)<(ps.length:Int))=true:=by simp;omega
   obtain ⟨A,u⟩:=Xn wr.drew;have S:Below w.heap.size w A:=by rw [<- u];exact HB.z.drew
   obtain ⟨b,off,x,rfl,ac,_,T,ab,hx⟩:=(HR.z.below S).at_ C;have r:=ZBq ps[k].1 x ps[k].2 A hx;have L:ps.getD k (0,[])=(ps[k].1,ps[k].2):=by simp [C]
   have E:=ZhJ ps k C;obtain ⟨z,hz⟩:=Xn (ps[k].1);rw [hz] at T r L E;obtain ⟨px,cx,rfl,_⟩:=hx.shape;generalize ps[k].2=l at *;have N:=Y4 L;have X:=Y4 E;have o:=Y4 S;have t:=Y4 T;have H:=Y4 ab;have g:=Y4 ac;obtain ⟨R,hR⟩:=Xn (Zhf (z,l));rw [hR] at r;have U:=Y4 hR;generalize l.length=nl at *;have f:=Y4 r;clear hx r L E hz hR T ab ac S
   have n:Y5 (0<k->∃(m:Nat) (y:Int),k=m+1/\m<ps.length/\(Zeh ps).getD (k - 1) 0=y/\A.cell? ⟨b,off+m*2,none⟩=some (.int .i64 y)):=Y4 (fun h0=>by
    have hm:k - 1<ps.length:=by omega
    obtain ⟨b',ae,x',Y,_,_,hc,_⟩:=(HR.z.below o.z).at_ hm;simp only [Xx,Addr.mk.injEq] at Y;obtain ⟨rfl,rfl,_⟩:=Y;exact ⟨k - 1,ps[k - 1].1,by omega,hm,ZhJ ps (k - 1) hm,hc⟩)
   cases R with
   | false =>
     have hf:B=false:=HF.z k C (fun h=>by have:=h.1;rw [N.z,U.z] at this;cases this);subst hf;clear J n;go_wp2_with fail;refine RG.Zal [(0,true),(1,true),(2,true),(3,true),(4,false),(5,true),(6,true),(7,true),(8,true),(9,true),(10,true),(11,true),(12,true),(13,true),(14,true),(15,true),(16,true),(17,true),(18,true),(19,true),(20,true),(21,true),(22,true),(23,true)] (by kernel_rfl) (by kernel_rfl) rfl (by kernel_rfl) (fun _ _ d _ _ h=>by cases d<;>exact h) ?_;simp only [RG.Zt,XC,XN,XU,XV,XS];rw [u];have f1:=fun W (c:RG.Za4 A W)=>(c.cell (p:=⟨b,off+k*2,none⟩) g.z).trans t.z;have D:=fun W (c:RG.Za4 A W)=>(c.cell (p:=⟨b,off+k*2+1,none⟩) g.z).trans H.z;repeat ((first|(refine RG.take (by rfl) (by intro W c;go_simp;with_reducible rfl) ?_)|(refine RG.skip (by rfl) ?_)|(refine RG.Zab (by rfl) ?_));simp only [Act.put,Xm,Xo,Xl])
     refine RG.alone (by rfl) (fun K F => ?_);go_simp;refine f.z.mono ?_;rintro e M ⟨rfl,a⟩;go_simp;refine F.z _ _ a ?_;clear F K f1 D;have q:=Y4 (o.z.trans (a.mono o.z.size));repeat ((first|(refine RG.take (by rfl) (by intro W c;go_simp;with_reducible rfl) ?_)|(refine RG.skip (by rfl) ?_)|(refine RG.Zab (by rfl) ?_));simp only [Act.put,Xm,Xo,Xl])
     refine RG.done ?_;clear a f;go_wp2_with fail;go_ret;exact ⟨rfl,q.z⟩
   | true =>
     by_cases h0:0<k
     ·obtain ⟨m,y,ad,af,aa,I⟩:=n.z h0;have s1:decide ((k:Int)>0)=true:=by simp;omega
      have e1:(k:Int) - 1=(m:Int):=by omega
      have e2:IntKind.i64.wrap (m:Int)=(m:Int):=by rw [IntKind.wrap_i64];omega
      have Z:=Y4 I;have V:=Y4 aa;have ah:=Y4 ad;clear n I aa ad
      by_cases G:z<=y
      ·have s2:decide (z<=y)=true:=Xs G;have hf:B=false:=HF.z k C (fun h=>by have:=h.2 h0;rw [X.z,V.z] at this;omega);subst hf;clear J G;go_wp2_with fail;refine RG.Zal [(0,true),(1,true),(2,true),(3,true),(4,false),(5,true),(6,true),(7,true),(8,true),(9,true),(10,true),(11,true),(12,true),(13,true),(14,true),(15,true),(16,true),(17,true),(18,true),(19,true),(20,true),(21,true),(22,true),(23,true)] (by kernel_rfl) (by kernel_rfl) rfl (by kernel_rfl) (fun _ _ d _ _ h=>by cases d<;>exact h) ?_;simp only [RG.Zt,XC,XN,XU,XV,XS];rw [u];have f1:=fun W (c:RG.Za4 A W)=>(c.cell (p:=⟨b,off+k*2,none⟩) g.z).trans t.z;have D:=fun W (c:RG.Za4 A W)=>(c.cell (p:=⟨b,off+k*2+1,none⟩) g.z).trans H.z;repeat ((first|(refine RG.take (by rfl) (by intro W c;go_simp;with_reducible rfl) ?_)|(refine RG.skip (by rfl) ?_)|(refine RG.Zab (by rfl) ?_));simp only [Act.put,Xm,Xo,Xl])
       refine RG.alone (by rfl) (fun K F => ?_);go_simp;refine f.z.mono ?_;rintro e M ⟨rfl,a⟩;go_simp;refine F.z _ _ a ?_;clear F K f1 D;have q:=Y4 (o.z.trans (a.mono o.z.size));have f1:=fun W (c:RG.Za4 M W)=>((a.trans (c.mono a.size)).cell (p:=⟨b,off+k*2,none⟩) g.z).trans t.z;have D:=fun W (c:RG.Za4 M W)=>((a.trans (c.mono a.size)).cell (p:=⟨b,off+m*2,none⟩) g.z).trans Z.z;repeat ((first|(refine RG.take (by rfl) (by intro W c;go_simp;with_reducible rfl) ?_)|(refine RG.skip (by rfl) ?_)|(refine RG.Zab (by rfl) ?_));simp only [Act.put,Xm,Xo,Xl])
       refine RG.done ?_;clear a f f1 D;go_wp2_with fail;go_ret;exact ⟨rfl,q.z⟩
      ·have s2:decide (z<=y)=false:=Xz G
       have O:Y5 (∀j,j<k+1->Zpo ps j):=Y4 (fun j hj=>by
        by_cases e:j=k
        ·subst e;unfold Zpo;rw [N.z,X.z,V.z];exact ⟨U.z,fun _=>by omega⟩
        ·exact J.z j (by omega))
       clear J G;go_wp2_with fail;refine RG.Zal [(0,true),(1,true),(2,true),(3,true),(4,false),(5,true),(6,true),(7,true),(8,true),(9,true),(10,true),(11,true),(12,true),(13,true),(14,true),(15,true),(16,true),(17,true),(18,true),(19,true),(20,true),(21,true),(22,true),(23,true)] (by kernel_rfl) (by kernel_rfl) rfl (by kernel_rfl) (fun _ _ d _ _ h=>by cases d<;>exact h) ?_;simp only [RG.Zt,XC,XN,XU,XV,XS];rw [u];have f1:=fun W (c:RG.Za4 A W)=>(c.cell (p:=⟨b,off+k*2,none⟩) g.z).trans t.z;have D:=fun W (c:RG.Za4 A W)=>(c.cell (p:=⟨b,off+k*2+1,none⟩) g.z).trans H.z;repeat ((first|(refine RG.take (by rfl) (by intro W c;go_simp;with_reducible rfl) ?_)|(refine RG.skip (by rfl) ?_)|(refine RG.Zab (by rfl) ?_));simp only [Act.put,Xm,Xo,Xl])
       refine RG.alone (by rfl) (fun K F => ?_);go_simp;refine f.z.mono ?_;rintro e M ⟨rfl,a⟩;go_simp;refine F.z _ _ a ?_;clear F K f1 D;have q:=Y4 (o.z.trans (a.mono o.z.size));have f1:=fun W (c:RG.Za4 M W)=>((a.trans (c.mono a.size)).cell (p:=⟨b,off+k*2,none⟩) g.z).trans t.z;have D:=fun W (c:RG.Za4 M W)=>((a.trans (c.mono a.size)).cell (p:=⟨b,off+m*2,none⟩) g.z).trans Z.z;repeat ((first|(refine RG.take (by rfl) (by intro W c;go_simp;with_reducible rfl) ?_)|(refine RG.skip (by rfl) ?_)|(refine RG.Zab (by rfl) ?_));simp only [Act.put,Xm,Xo,Xl])
       refine RG.done ?_;clear a f f1 D;go_wp2_with fail;go_roundw
       case rel=>exact ⟨k+1,by omega,by go_num,O,q⟩
       case measure=>simp [intOf];omega
     ·have s1:decide ((k:Int)>0)=false:=by simp;omega
      have s5:decide (0<k)=false:=Xz h0
      have O:Y5 (∀j,j<k+1->Zpo ps j):=Y4 (fun j hj=>by
       by_cases e:j=k
       ·subst e;unfold Zpo;rw [N.z];exact ⟨U.z,fun h=>absurd h h0⟩
       ·exact J.z j (by omega))
      clear J n;go_wp2_with fail;refine RG.Zal [(0,true),(1,true),(2,true),(3,true),(4,false),(5,true),(6,true),(7,true),(8,true),(9,true),(10,true),(11,true),(12,true),(13,true),(14,true),(15,true),(16,true),(17,true),(18,true),(19,true),(20,true),(21,true),(22,true),(23,true)] (by kernel_rfl) (by kernel_rfl) rfl (by kernel_rfl) (fun _ _ d _ _ h=>by cases d<;>exact h) ?_;simp only [RG.Zt,XC,XN,XU,XV,XS];rw [u];have f1:=fun W (c:RG.Za4 A W)=>(c.cell (p:=⟨b,off+k*2,none⟩) g.z).trans t.z;have D:=fun W (c:RG.Za4 A W)=>(c.cell (p:=⟨b,off+k*2+1,none⟩) g.z).trans H.z;repeat ((first|(refine RG.take (by rfl) (by intro W c;go_simp;with_reducible rfl) ?_)|(refine RG.skip (by rfl) ?_)|(refine RG.Zab (by rfl) ?_));simp only [Act.put,Xm,Xo,Xl])
      refine RG.alone (by rfl) (fun K F => ?_);go_simp;refine f.z.mono ?_;rintro e M ⟨rfl,a⟩;go_simp;refine F.z _ _ a ?_;clear F K f1 D;have q:=Y4 (o.z.trans (a.mono o.z.size));repeat ((first|(refine RG.take (by rfl) (by intro W c;go_simp;with_reducible rfl) ?_)|(refine RG.skip (by rfl) ?_)|(refine RG.Zab (by rfl) ?_));simp only [Act.put,Xm,Xo,Xl])
      refine RG.done ?_;clear a f;go_wp2_with fail;go_roundw
      case rel=>exact ⟨k+1,by omega,by go_num,O,q⟩
      case measure=>simp [intOf];omega
  ·obtain rfl:k=ps.length:=by omega
   have t4:decide ((ps.length:Int)<(ps.length:Int))=false:=by simp
   have hf:B=true:=HT.z J.z;subst hf;clear J;go_wp2_with fail;go_ret;exact ⟨rfl,HB.z⟩
theorem Zkm (u v:Value) (c t:List Zk) (w:World) (hu:Za7 w u c) (hv:Za7 w v t) :
  Calls prog 19 #[u,v] w fun e w'=>e=.returned (.bool (decide (c=t)))/\Below w.heap.size w w':=by
 obtain ⟨p,cp,rfl,aj,ah,_⟩:=hu.shape;obtain ⟨q,cq,rfl,ai,ag,_⟩:=hv.shape;unfold maxLen at ah ag;have HP:=Y4 hu;have HQ:=Y4 hv;clear hu hv
 by_cases U:c.length=t.length
 ·have HL:=Y4 U;rw [<- U];obtain ⟨E,n⟩:=Xn (decide (c=t));have HE:=Y4 n;rw [n];have H0:Y5 (c.take 0=t.take 0):=Y4 rfl;clear U n ai;go_enter func19,ntmps19;go_wp2_with fail
  go_loopw [5] (fun i wr=>∃k:Nat,k<=c.length/\i=.int .i64 k/\Y5 (c.take k=t.take k)/\Y5 (Below w.heap.size w wr)) (fun i _=>c.length - (intOf i).toNat)
  case atStart=>exact ⟨0,XX _,rfl,H0,Y4 (Below.refl _ _)⟩
  case round =>
   obtain ⟨k,hk,rfl,L,HB⟩:=hrel;clear H0
   by_cases x:k<c.length
   ·have t1:decide ((k:Int)<(c.length:Int))=true:=by simp;omega
    have M:k<t.length:=by rw [<- HL.z];exact x
    obtain ⟨B,D⟩:=Xn wr.drew;have z:Below w.heap.size w B:=by rw [<- D];exact HB.z.drew
    obtain ⟨b,off,x1,rfl,ae,_,A,ad,s⟩:=(HP.z.below z).at_ x;obtain ⟨b2,m,x2,rfl,C,_,y,ab,j⟩:=(HQ.z.below z).at_ M;have a:=ZoJ HL.z L.z x;have f:=ZrD HL.z x;obtain ⟨⟨z1,l1⟩,aa⟩:∃r,c[k]=r:=⟨_,rfl⟩;obtain ⟨⟨z2,l2⟩,X⟩:∃r,t[k]=r:=⟨_,rfl⟩;rw [aa] at A s a f;rw [X] at y j a f;dsimp only at A y s j;have J:=Y4 (Zgv x1 x2 l1 l2 B s j);have HM:=Y4 a;have Z:=Y4 f;have G:=Y4 z;have V:=Y4 A;have Y:=Y4 ad;have T:=Y4 y;have O:=Y4 ab;have H:=Y4 ae;have l:=Y4 C;obtain ⟨an,am,rfl,_⟩:=s.shape;obtain ⟨ak,al,rfl,_⟩:=j.shape;obtain ⟨R,hR⟩:=Xn (decide (l1=l2));rw [hR] at J;have o:=Y4 hR;obtain ⟨n1,N⟩:=Xn l1.length;obtain ⟨n2,S⟩:=Xn l2.length;rw [N] at J Y;rw [S] at J O;clear aa X a f hR s j A ad y ab ae C z N S
    by_cases I:z1=z2
    ·have s1:(z1 != z2)=false:=by rw [bne_eq_false_iff_eq];exact I
     have HZ:=Y4 I;clear I;go_wp2_with fail;refine RG.Zal [(0,true),(1,true),(2,true),(3,true),(4,true),(5,true),(6,true),(7,true),(8,true),(9,true),(10,true),(11,true),(12,true),(13,true),(14,true),(15,true),(16,true),(17,true),(18,true),(19,true),(20,true),(21,true),(22,false),(23,true),(24,true)] (by kernel_rfl) (by kernel_rfl) rfl (by kernel_rfl) (fun _ _ d _ _ h=>by cases d<;>exact h) ?_;simp only [RG.Zt,XC,XN,XU,XV,XS];rw [D];have f1:=fun W (g:RG.Za4 B W)=>(g.cell (p:=⟨b,off+k*2,none⟩) H.z).trans V.z;have f2:=fun W (g:RG.Za4 B W)=>(g.cell (p:=⟨b,off+k*2+1,none⟩) H.z).trans Y.z;have f3:=fun W (g:RG.Za4 B W)=>(g.cell (p:=⟨b2,m+k*2,none⟩) l.z).trans T.z;have f4:=fun W (g:RG.Za4 B W)=>(g.cell (p:=⟨b2,m+k*2+1,none⟩) l.z).trans O.z;repeat ((first|(refine RG.take (by rfl) (by intro W g;go_simp;with_reducible rfl) ?_)|(refine RG.skip (by rfl) ?_)|(refine RG.Zab (by rfl) ?_));simp only [Act.put,Xm,Xo,Xl])
     refine RG.alone (by rfl) (fun K hK => ?_);go_simp;refine J.z.mono ?_;rintro e w3 ⟨rfl,F⟩;go_simp;refine hK.z _ _ F ?_;clear hK K f1 f2 f3 f4;have ac:=Y4 (G.z.trans (F.mono G.z.size));repeat ((first|(refine RG.take (by rfl) (by intro W g;go_simp;with_reducible rfl) ?_)|(refine RG.skip (by rfl) ?_)|(refine RG.Zab (by rfl) ?_));simp only [Act.put,Xm,Xo,Xl])
     refine RG.done ?_;clear F J;cases R with
     | true =>
       have af:=Y4 (HM.z (by rw [HZ.z,of_decide_eq_true o.z]));clear HM Z L o;go_wp2_with fail;go_roundw
       case rel=>exact ⟨k+1,by omega,by go_num,af,ac⟩
       case measure=>simp [intOf];omega
     | false =>
       have hf:E=false:=by rw [<- HE.z];exact Xz (Z.z (fun e=>of_decide_eq_false o.z (Xr Prod.snd e)))
       subst hf;clear HM Z L o;go_wp2_with fail;go_ret;exact ⟨rfl,ac.z⟩
    ·have s1:(z1 != z2)=true:=by rw [Xah];exact I
     have hf:E=false:=by rw [<- HE.z];exact Xz (Z.z (fun e=>I (Xr Prod.fst e)))
     subst hf;clear I HM Z L o;go_wp2_with fail;refine RG.Zal [(0,true),(1,true),(2,true),(3,true),(4,true),(5,true),(6,true),(7,true),(8,true),(9,true),(10,true),(11,true),(12,true),(13,true),(14,true),(15,true),(16,true),(17,true),(18,true),(19,true),(20,true),(21,true),(22,false),(23,true),(24,true)] (by kernel_rfl) (by kernel_rfl) rfl (by kernel_rfl) (fun _ _ d _ _ h=>by cases d<;>exact h) ?_;simp only [RG.Zt,XC,XN,XU,XV,XS];rw [D];have f1:=fun W (g:RG.Za4 B W)=>(g.cell (p:=⟨b,off+k*2,none⟩) H.z).trans V.z;have f3:=fun W (g:RG.Za4 B W)=>(g.cell (p:=⟨b2,m+k*2,none⟩) l.z).trans T.z;repeat ((first|(refine RG.take (by rfl) (by intro W g;go_simp;with_reducible rfl) ?_)|(refine RG.skip (by rfl) ?_)|(refine RG.Zab (by rfl) ?_));simp only [Act.put,Xm,Xo,Xl])
     refine RG.done ?_;clear f1 f3 J;go_wp2_with fail;go_ret;exact ⟨rfl,G.z⟩
   ·obtain rfl:k=c.length:=by omega
    have t1:decide ((c.length:Int)<(c.length:Int))=false:=by simp
    have hf:E=true:=by rw [<- HE.z];exact Xs (ZrC HL.z L.z)
    subst hf;clear L;go_wp2_with fail;go_ret;exact ⟨rfl,HB.z⟩
 ·have t0:((c.length:Int) == (t.length:Int))=false:=Xb;have hf:decide (c=t)=false:=Xz (fun e=>U (by rw [e]));rw [hf];clear U hf;go_enter func19,ntmps19;go_wp2_with fail;go_ret;exact ⟨rfl,Below.refl _ _⟩
