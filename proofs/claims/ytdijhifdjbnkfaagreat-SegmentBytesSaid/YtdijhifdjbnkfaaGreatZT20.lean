import Derived.Deep.MidRow
import Derived.Test.YtdijhifdjbnkfaaGreatZT11
set_option maxRecDepth 100000
set_option maxHeartbeats 0
set_option linter.unusedVariables false
set_option linter.unusedSimpArgs false
namespace Go.Proofs.YtdijhifdjbnkfaaGreat
open Lib (hid)
open Tryz
namespace PW
open RowKit MM PM
variable {S T:Nat->Prop} {w w':World} {v:Value} {zs:List Int} {B n cap k g:Nat} {p:Option Addr}
theorem ZxS:(prog.info? 125).map (fun i=>(i.zero,i.size,i.bytes))=some (some (.agg #[.int .i64 0,.slice none 0 0]),2,32):=by kernel_rfl
def IOn (S:Nat->Prop) (w:World) (v:Value) (zs:List Int):Prop :=
 ∃(p:Option Addr) (cap:Nat),v=.slice p zs.length cap/\zs.length<=cap/\cap<=maxLen/\(p=none->cap=0) /\
   (zs=[]\/∃b off,p=some ⟨b,off,none⟩/\b<w.heap.size/\S b/\∀i (h:i<zs.length),w.cell? ⟨b,off+i,none⟩=some (.int .i64 zs[i]))
theorem IOn.keep (h:IOn S w v zs) (d:Kep S w w') (l:∀b,b<w.heap.size->S b->T b):IOn T w' v zs:=by
 obtain ⟨p,cap,j,q,f,o,h⟩:=h;refine ⟨p,cap,j,q,f,o,?_⟩;rcases h with h|⟨b,off,m,a,c,e⟩
 ·exact .inl h
 ·exact .inr ⟨b,off,m,XK a d.size,l b a c,fun i hi=>by rw [d.cell a c];exact e i hi⟩
theorem IOn.weak (h:IOn S w v zs) (a:∀b,b<w.heap.size->S b->T b):IOn T w v zs:=h.keep (Kep.refl _ _) a
theorem Zqz (h:Za0 B w v (zs.map (Value.int .i64))) (l:B<=w.heap.size):IOn (fun b=>b<B) w v zs:=by
 obtain ⟨p,cap,c,d,f,m,h⟩:=h;rw [XE] at c d;refine ⟨p,cap,c,d,f,m,?_⟩;rcases h with h|⟨b,off,j,a,e⟩
 ·exact .inl (Xbe.1 h)
 ·exact .inr ⟨b,off,j,XK a l,a,fun i hi=>e i _ (by rw [Xa1,XW hi];rfl)⟩
theorem IOn.shape (h:IOn S w v zs):∃p cap,v=.slice p zs.length cap/\zs.length<=cap/\cap<=maxLen/\(p=none->cap=0):=by
 obtain ⟨p,cap,a,d,c,b,_⟩:=h;exact ⟨p,cap,a,d,c,b⟩
theorem IOn.nil_ (S:Nat->Prop) (w:World):IOn S w (.slice none 0 0) []:=⟨none,0,rfl,Xc _,by unfold maxLen;omega,fun _=>rfl,.inl rfl⟩
theorem IOn.at_ (h:IOn S w (.slice p n cap) zs) (d:k<zs.length) :
  ∃b off,p=some ⟨b,off,none⟩/\b<w.heap.size/\S b/\w.cell? ⟨b,off+k,none⟩=some (.int .i64 zs[k]):=by
 obtain ⟨p',cap',c,_,_,_,h⟩:=h;simp only [Value.slice.injEq] at c;obtain ⟨rfl,_,_⟩:=c;rcases h with h|⟨b,off,i,a,f,e⟩
 ·subst h;simp at d
 ·exact ⟨b,off,i,a,f,e k d⟩
def Zkb (a:List (Int×Value)):List Value:=a.flatMap fun t=>[.int .i64 t.1,t.2]
theorem Zjo (a:List (Int×Value)):(Zkb a).length=a.length*2:=by
 induction a with
 | nil=>rfl
 | cons t b ih =>
   have e:Zkb (t::b)=[.int .i64 t.1,t.2]++Zkb b:=rfl;rw [e,Xd,ih,Xh];simp;omega
theorem ZqY (a b:List (Int×Value)):Zkb (a++b)=Zkb a++Zkb b:=by simp [Zkb]
theorem ZmQ:∀(a:List (Int×Value)) (i:Nat) (h:i<a.length),(Zkb a)[i*2]? = some (.int .i64 a[i].1)/\(Zkb a)[i*2+1]? = some a[i].2
 | t::ts,0,_=>⟨rfl,rfl⟩
 | t::ts,i+1,h=>by
   have:=ZmQ ts i (by simpa using h);have e:Zkb (t::ts)=.int .i64 t.1::t.2::Zkb ts:=rfl;rw [e,show (i+1)*2=i*2+1+1 by omega];simpa using this
def Zd9 (S:Nat->Prop) (w:World) (a:List (Int×Value)) (ps:List Zm):Prop:=a.length=ps.length/\∀i (h:i<a.length) (h':i<ps.length),a[i].1=ps[i].1/\IOn S w a[i].2 ps[i].2
theorem Zd9.keep {c:List (Int×Value)} {ps:List Zm} (h:Zd9 S w c ps) (e:Kep S w w') (d:∀b,b<w.heap.size->S b->T b):Zd9 T w' c ps :=
 ⟨h.1,fun i hi a=>⟨(h.2 i hi a).1,(h.2 i hi a).2.keep e d⟩⟩
theorem Zd9.snoc {b:List (Int×Value)} {ps:List Zm} (h:Zd9 S w b ps) {z:Int} {x:Value} {qs:List Int} (j:IOn S w x qs):Zd9 S w (b++[(z,x)]) (ps++[(z,qs)]):=by
 refine ⟨by rw [Xd,Xd,h.1];rfl,fun i hi c => ?_⟩;rw [Xd,Xaf] at hi c
 by_cases a:i<b.length
 ·rw [Xa9 a,Xa9 (by rw [<- h.1];exact a)];exact h.2 i a (by rw [<- h.1];exact a)
 ·obtain rfl:i=b.length:=by omega
  have e:=h.1;have d:(b++[(z,x)])[b.length]'(by simp)=(z,x):=by simp
  have f:(ps++[(z,qs)])[b.length]'(by simp [e])=(z,qs):=by simp [e]
  rw [d,f];exact ⟨rfl,j⟩
def POn (S:Nat->Prop) (w:World) (v:Value) (ps:List Zm):Prop :=
 ∃(p:Option Addr) (cap:Nat) (a:List (Int×Value)),v=.slice p ps.length cap/\ps.length<=cap/\cap<=maxLen/\(p=none->cap=0)/\Zd9 S w a ps /\
   (ps=[]\/∃b off,p=some ⟨b,off,none⟩/\b<w.heap.size/\S b/\∀i (h:i<a.length),w.cell? ⟨b,off+i*2,none⟩=some (.int .i64 a[i].1)/\w.cell? ⟨b,off+i*2+1,none⟩=some a[i].2)
theorem POn.keep {ps:List Zm} (h:POn S w v ps) (c:Kep S w w') (e:∀b,b<w.heap.size->S b->T b):POn T w' v ps:=by
 obtain ⟨p,cap,q,m,s,l,r,f,h⟩:=h;refine ⟨p,cap,q,m,s,l,r,f.keep c e,?_⟩;rcases h with h|⟨b,off,o,a,d,j⟩
 ·exact .inl h
 ·exact .inr ⟨b,off,o,XK a c.size,e b a d,fun i hi=>by rw [c.cell a d,c.cell a d];exact j i hi⟩
theorem POn.weak {ps:List Zm} (h:POn S w v ps) (a:∀b,b<w.heap.size->S b->T b):POn T w v ps:=h.keep (Kep.refl _ _) a
def Zbp (w:World) (v:Value) (ps:List Zm):Prop:=POn (fun _=>True) w v ps
theorem Zbp.below {ps:List Zm} (h:Zbp w v ps) (a:Below w.heap.size w w'):Zbp w' v ps:=h.keep (Za _ a) fun _ _ h=>h
theorem Zbp.pon {ps:List Zm} (h:Zbp w v ps):POn (fun b=>b<w.heap.size) w v ps:=h.weak fun _ h _=>h
theorem POn.shape {ps:List Zm} (h:POn S w v ps):∃p cap,v=.slice p ps.length cap/\ps.length<=cap/\cap<=maxLen/\(p=none->cap=0):=by
 obtain ⟨p,cap,xs,b,d,a,c,_⟩:=h;exact ⟨p,cap,b,d,a,c⟩
theorem POn.at_ {ps:List Zm} (h:POn S w (.slice p n cap) ps) (c:k<ps.length) :
  ∃b off x,p=some ⟨b,off,none⟩/\b<w.heap.size/\S b/\w.cell? ⟨b,off+k*2,none⟩=some (.int .i64 ps[k].1)/\w.cell? ⟨b,off+k*2+1,none⟩=some x/\IOn S w x ps[k].2:=by
 obtain ⟨p',cap',j,i,_,_,_,e,h⟩:=h;simp only [Value.slice.injEq] at i;obtain ⟨rfl,_,_⟩:=i;rcases h with h|⟨b,off,q,d,o,m⟩
 ·subst h;simp at c
 ·have a:k<j.length:=by rw [e.1];exact c
  have f:=e.2 k a c;have l:=m k a;exact ⟨b,off,j[k].2,q,d,o,by rw [<- f.1];exact l.1,l.2,f.2⟩
theorem POn.nil_ (S:Nat->Prop) (w:World):POn S w (.slice none 0 0) []:=⟨none,0,[],rfl,Xc _,by unfold maxLen;omega,fun _=>rfl,⟨rfl,fun i h=>by simp at h⟩,.inl rfl⟩
theorem Ze8 {a:World} (h:Below B a w) {o:Nat} (b:B<=g) (vs:List Value):Below B a (w.setCells g o vs):=by
 induction vs generalizing w o with
 | nil=>exact h
 | cons v vs ih=>exact ih (h.setCell (p:=⟨g,o,none⟩) b v)
theorem ZuZ (a:¬S g) (vs:List Value) (o:Nat):Kep S w (w.setCells g o vs):=by
 induction vs generalizing w o with
 | nil=>exact Kep.refl _ _
 | cons v vs ih=>exact (Zx a v).trans (ih _)
def Ze7 (w:World) (g n:Nat) (a:List (Int×Value)):Prop:=g<w.heap.size/\w.there g 0 (n*2)/\w.rangeAt g 0 (Zkb a)
theorem Zqp {i:List Value} (h:w.ownsRow B 125 2 (.slice (some ⟨g,0,none⟩) n n) n i):Ze7 w g n []:=by
 rcases h.2 with ⟨b,_⟩|⟨g',cap,a,b,hb,c,hn,hm,hs,ht⟩
 ·cases b
 ·simp only [Value.slice.injEq,Xv,Addr.mk.injEq] at b;obtain ⟨⟨rfl,_⟩,_,rfl⟩:=b;refine ⟨(Xo.1 c).1,fun j d=>⟨?_,frozen_of_row w g _ a _ c⟩,fun j v d=>by simp [Zkb] at d⟩;have e:∃u,(a.toList.take (n*2))[j]? = some u:=⟨_,XW (by rw [Xi,Array.length_toList];omega)⟩;obtain ⟨u,f⟩:=e;have:=Lib.cells_of_row c (n*2) j u f;rw [ZY] at this;rw [this];rfl
theorem Ze7.next {a:List (Int×Value)} (h:Ze7 w g n a) (hk:a.length<n) (p:Int) (x:Value) :
  Ze7 (w.setCells g (a.length*2) [.int .i64 p,x]) g n (a++[(p,x)]):=by
 obtain ⟨m,d,i⟩:=h
 have f:w.there g (a.length*2) [Value.int .i64 p,x].length:=fun j b=>by
  have:=d (a.length*2+j) (by simp at b;omega);rw [XL] at this;exact this
 refine ⟨?_,World.there_setCells d _ _ _,?_⟩
 ·exact XK m (Ze8 (Below.refl 0 w) (XU _) _).size
 ·have e:=World.rangeAt_setCells_apart i g (a.length*2) [.int .i64 p,x] (.inr (.inl (by rw [Zjo];omega)));have l:=World.rangeAt_setCells_same w g (a.length*2) _ f;intro j v b;rw [ZqY] at b
  by_cases c:j<a.length*2
  ·rw [List.getElem?_append_left (by rw [Zjo];exact c)] at b;exact e j v b
  ·rw [Xbt (by rw [Zjo];omega),Zjo] at b;have:=l (j - a.length*2) v b;rw [show a.length*2+(j - a.length*2)=0+j by omega] at this;exact this
theorem Ze7.keep {f:List (Int×Value)} (h:Ze7 w g n f) (e:Kep S w w') (l:S g):Ze7 w' g n f:=by
 obtain ⟨i,o,m⟩:=h;have c:=e.block g i l;refine ⟨XK i e.size,fun j b => ?_,fun j v b => ?_⟩
 ·have:=o j b;rw [World.cell?_of_block (a:=⟨g,0+j,none⟩) c];refine ⟨this.1,?_⟩;have d:=this.2;unfold World.frozen? at d ⊢;simp only [c];exact d
 ·rw [World.cell?_of_block (a:=⟨g,0+j,none⟩) c];exact m j v b
variable {B g n:Nat} {w:World} {zs:List Int}
theorem ZdH (v:Value) (zs:List Int) (c:Int) (w:World) (D:IOn (fun _=>True) w v zs):Calls prog 239 #[v,.int .i64 c] w fun e w'=>e=.returned (.bool (ZcM c zs))/\w=w':=by
 obtain ⟨p,T,rfl,N,E,_⟩:=D.shape;unfold maxLen at E;have M:=hid D;obtain ⟨f,d⟩:=Xn (ZcM c zs);have y:=hid d;have H:Hid (∀k,k<0->Zhn (-1) zs k<zs.getD k 0/\zs.getD k 0<c):=hid (fun k S=>by omega);have o:Hid (Zhn (-1) zs 0 = -1):=hid rfl;rw [d];clear D d;go_enter func239,ntmps239;go_wp2_with fail
 go_loop [5,10] (fun a i=>∃(k:Nat) (A:Int),k<=zs.length/\i=.int .i64 k/\a=.int .i64 A/\Hid (Zhn (-1) zs k=A)/\Hid (∀j,j<k->Zhn (-1) zs j<zs.getD j 0/\zs.getD j 0<c)) (fun _ i=>zs.length - (intOf i).toNat)
 case atStart=>exact ⟨0, -1,by omega,rfl,rfl,o,H⟩
 case round =>
  obtain ⟨k,A,S,rfl,rfl,J,m⟩:=hrel;clear H o
  by_cases h:k<zs.length
  ·have O:decide ((k:Int)<(zs.length:Int))=true:=by simp;omega
   obtain ⟨b,off,rfl,L,_,l⟩:=M.out.at_ h;have C:zs.getD k 0=zs[k]:=by simp [h]
   obtain ⟨z,I⟩:=Xn (zs[k]);rw [I] at l C;have u:=hid C;have q:=hid h;clear I C
   by_cases s:z<=A
   ·have R:decide (z<=A)=true:=by simpa using s
    have r:f=false:=by
     rw [<- y.out,Bool.eq_false_iff];intro x;have:=((ZhT c zs).1 x k q.out).1;rw [J.out,u.out] at this;omega
    subst r;clear m s;go_wp2_with fail;go_ret;exact ⟨rfl,rfl⟩
   ·have R:decide (z<=A)=false:=by simpa using s
    by_cases t:z>=c
    ·have t3:decide (z>=c)=true:=by simpa using t
     have r:f=false:=by
      rw [<- y.out,Bool.eq_false_iff];intro x;have:=((ZhT c zs).1 x k q.out).2;rw [u.out] at this;omega
     subst r;clear m s t;go_wp2_with fail;go_ret;exact ⟨rfl,rfl⟩
    ·have t3:decide (z>=c)=false:=by simpa using t
     have G:Hid (∀j,j<k+1->Zhn (-1) zs j<zs.getD j 0/\zs.getD j 0<c):=hid (fun j hj=>by
      by_cases e:j=k
      ·subst e;rw [J.out,u.out];omega
      ·exact m.out j (by omega))
     have F:Hid (Zhn (-1) zs (k+1)=z):=hid u.out;clear m s t;go_wp2_with fail
     go_round
     case rel=>exact ⟨k+1,z,by omega,by go_num,rfl,F,G⟩
     case measure=>simp [intOf];omega
  ·obtain rfl:k=zs.length:=by omega
   have O:decide ((zs.length:Int)<(zs.length:Int))=false:=by simp
   have r:f=true:=by rw [<- y.out,ZhT];exact m.out
   subst r;clear m;go_wp2_with fail;go_ret;exact ⟨rfl,rfl⟩
theorem ZA0 (z:Int) (x:Value) (qs:List Int) (w:World) (d:IOn (fun _=>True) w x qs):Calls prog 242 #[.agg #[.int .i64 z,x]] w fun e w'=>e=.returned (.bool (ZdZ (z,qs)))/\Below w.heap.size w w':=by
 obtain ⟨p,i,rfl,m,f,_⟩:=d.shape;unfold maxLen at f;have j:=hid (fun W (o:Below w.heap.size w W)=>ZdH _ qs 1048576 W (d.keep (Za _ o) fun _ _ h=>h));have a:Below w.heap.size w (w.alloc (.cells #[.int .i64 z,.slice p qs.length i] 125)):=(Below.refl _ _).alloc (Xc _) _;have b:=hid (j.out _ a);have l:=hid a;clear j d a
 by_cases c:qs.length=0
 ·have r:((qs.length:Int) == 0)=true:=by rw [Xan];omega
  have e:ZdZ (z,qs)=true:=by
   have:qs=[]:=XO c;subst this;rfl
  rw [e];clear e c;go_enter func242,ntmps242;go_wp2_with fail;go_ret;exact ⟨rfl,l.out⟩
 ·have r:((qs.length:Int) == 0)=false:=Xb
  have e:ZdZ (z,qs) = !ZcM 1048576 qs:=by
   unfold ZdZ;cases qs with
   | nil=>simp at c
   | cons q qs=>rfl
  rw [e];obtain ⟨R,k⟩:=Xn (ZcM 1048576 qs);rw [k] at b ⊢;clear e c k;go_enter func242,ntmps242;go_wp2_with fail;refine b.out.mono ?_;rintro e w1 ⟨rfl,rfl⟩;go_wp2_with fail;go_ret;exact ⟨rfl,l.out⟩
theorem ZuU (v:Value) (ps:List Zm) (w:World) (o:Zbp w v ps):Calls prog 263 #[v,.func (.func 242) #[] #[]] w fun e w'=>∃n:Int,e=.returned (.int .i64 n)/\decide (n>=0)=ps.any ZdZ/\Below w.heap.size w w':=by
 obtain ⟨p,J,rfl,O,A,_⟩:=o.shape;unfold maxLen at A;have N:=hid o;obtain ⟨l,a⟩:=Xn (ps.any ZdZ);have G:=hid a;have F:Hid ((ps.take 0).any ZdZ=false):=hid rfl;rw [a];clear o a;go_enter func263,ntmps263;go_wp2_with fail
 go_loopw [8] (fun i wr=>∃k:Nat,k<=ps.length/\i=.int .i64 k/\Hid ((ps.take k).any ZdZ=false)/\Hid (Below w.heap.size w wr)) (fun i _=>ps.length - (intOf i).toNat)
 case atStart=>exact ⟨0,by omega,rfl,F,hid (Below.refl _ _)⟩
 case round =>
  obtain ⟨k,hk,rfl,t,y⟩:=hrel;clear F
  by_cases j:k<ps.length
  ·have S:decide ((k:Int)<(ps.length:Int))=true:=by simp;omega
   obtain ⟨b,off,x,rfl,M,_,u,T,D⟩:=(N.out.below y.out).at_ j
   have f:(ps.take (k+1)).any ZdZ=ZdZ ps[k]:=by
    rw [XG j,List.any_append,t.out];simp
   have c:=ZA0 ps[k].1 x ps[k].2 wr D
   have d:∀r,ZdZ ps[k]=r->r=true->l=true:=fun r o h=>by
    rw [<- G.out];exact List.any_eq_true.2 ⟨ps[k],XH j,by rw [o,h]⟩
   obtain ⟨z,H⟩:=Xn (ps[k].1);have I:ZdZ (ps[k].1,ps[k].2)=ZdZ ps[k]:=rfl;rw [I] at c;rw [H] at u c;obtain ⟨R,C⟩:=Xn (ZdZ ps[k]);rw [C] at f c;have L:=hid (d R C);obtain ⟨px,cx,rfl,_⟩:=D.shape;generalize ps[k].2.length=nx at *;have E:=hid f;have m:=hid c;clear D f c H C d I;go_wp2_with fail;refine m.out.mono ?_;rintro e w1 ⟨rfl,q⟩;have s:=hid (grow y.out q);clear q m;cases R with
   | true =>
     have:=L.out rfl;subst this;go_wp2_with fail;go_ret;exact ⟨_,rfl,by simp,s.out⟩
   | false =>
     go_wp2_with fail;go_roundw
     case rel=>exact ⟨k+1,by omega,by go_num,E,s⟩
     case measure=>simp [intOf];omega
  ·obtain rfl:k=ps.length:=by omega
   have S:decide ((ps.length:Int)<(ps.length:Int))=false:=by simp
   have U:l=false:=by rw [<- G.out,<- t.out,XC]
   subst U;clear t;go_wp2_with fail;go_ret;exact ⟨_,rfl,by simp,y.out⟩
theorem ZoY (v:Value) (ps:List Zm) (w:World) (b:Zbp w v ps):Calls prog 241 #[v,.func (.func 242) #[] #[]] w fun e w'=>e=.returned (.bool (ps.any ZdZ))/\Below w.heap.size w w':=by
 have d:=hid (ZuU v ps w b);obtain ⟨p,k,rfl,h,j,_⟩:=b.shape;generalize ps.any ZdZ=R at *;clear b;go_enter func241,ntmps241;go_wp2_with fail;refine d.out.mono ?_;rintro e w1 ⟨n,rfl,c,a⟩;have i:=hid a;have f:=hid c;clear c a d;go_wp2_with fail;go_ret;exact ⟨by rw [<- f.out];rfl,i.out⟩
theorem Zp7 (ps:List Zm):(Zeh ps).length=ps.length:=by simp [Zeh]
theorem ZhM (ps:List Zm) (k:Nat) (h:k<ps.length):(Zeh ps).getD k 0=ps[k].1:=by simp [Zeh,h]
def Zwu (zs:List Int) (w:World) (e:Ending) (w':World):Prop:=∃v,e=.returned v/\Ze3 w.heap.size w' v zs/\Below w.heap.size w w'
theorem Ze3.ion {v:Value} (h:Ze3 B w v zs):IOn (fun _=>True) w v zs:=(Zqz (B:=w.heap.size) h.irow (Xc _)).weak fun _ _ _=>trivial
def ZeC (w:World) (g n:Nat) (zs:List Int):Prop:=g<w.heap.size/\∃a,w.heap[g]? = some (.cells a 3)/\a.size=n/\zs.length<=n/\a.toList.take zs.length=zs.map (Value.int .i64)
theorem ZkC {d:List Value} (h:w.ownsRow B 3 1 (.slice (some ⟨g,0,none⟩) n n) n d):ZeC w g n []:=by
 rcases h.2 with ⟨a,_⟩|⟨g',e,b,a,hb,c,hn,hm,hs,ht⟩
 ·cases a
 ·simp only [Value.slice.injEq,Xv,Addr.mk.injEq] at a;obtain ⟨⟨rfl,_⟩,_,rfl⟩:=a;exact ⟨(Xo.1 c).1,b,c,by omega,by simp,by simp⟩
theorem ZeC.next (h:ZeC w g n zs) (hk:zs.length<n) (z:Int):ZeC (w.setCell ⟨g,zs.length,none⟩ (.int .i64 z)) g n (zs++[z]):=by
 obtain ⟨e,a,b,d,h4,c⟩:=h;have:=heap_setCell_same w g zs.length _ _ (.int .i64 z) b;refine ⟨by simpa using e,_,this,by simp [d],by simp;omega,?_⟩;rw [Xd,Xaf,XG (by simp;omega)];simp only [Array.toList_setIfInBounds,XN,Xbs];rw [List.take_set_of_le (by omega),c];simp
theorem ZeC.cell (h:ZeC w g n zs) {k:Nat} (hk:k<n):(∃u,w.cell? ⟨g,k,none⟩=some u)/\w.frozen? ⟨g,k,none⟩=false:=by
 obtain ⟨h1,b,a,h3,h4,h5⟩:=h;exact ⟨by rw [cell_of_row w g k _ _ _ a];exact ⟨_,Array.getElem?_eq_getElem (by omega)⟩,frozen_of_row w g k _ _ a⟩
theorem ZeC.own (h:ZeC w g n zs) (d:zs.length=n) (b:n<=maxLen) (f:B<=g):Ze3 B w (.slice (some ⟨g,0,none⟩) n n) zs:=by
 obtain ⟨h1,a,c,h3,h4,e⟩:=h;subst d;exact ⟨by simp,.inr ⟨g,zs.length,a,rfl,f,c,Xc _,b,by omega,by rw [XaG];exact e⟩⟩
theorem ZeC.keep {S:Nat->Prop} {w':World} (h:ZeC w g n zs) (c:Kep S w w') (d:S g):ZeC w' g n zs:=by
 obtain ⟨b,a,f,e⟩:=h;exact ⟨XK b c.size,a,by rw [c.block g b d];exact f,e⟩
theorem Zl3 (v:Value) (ps:List Zm) (w:World) (H:Zbp w v ps) (hl:ps.length<=1000000000):Calls prog 240 #[v] w (Zwu (Zeh ps) w):=by
 obtain ⟨i0,hi,C,y,s⟩:=info_parts Zgi;obtain ⟨p,V,rfl,Z,J,_⟩:=H.shape;unfold maxLen at J;have Y:=hid H;have HL:=hid (Zp7 ps);have O:=hid (ZhM ps);obtain ⟨D,o⟩:=Xn (Zeh ps);rw [o] at HL O ⊢;clear H o;go_enter func240,ntmps240;go_wp2_with (at_make;refine wpList_make_full w rfl _ _ 69 rfl w.heap.size 3 i0 (.int .i64 0) 1 underlying69 hi C y .i64 .i64 _ _ ps.length rfl rfl rfl rfl (by rw [s];omega) (by unfold maxLen;omega) (Xc _) ?_)
 intro w2 c F;have R:=(Below.refl w.heap.size w).grown F (Xc _) (fun k h=>by cases h);have A:Hid (ZeC w2 w.heap.size ps.length (D.take 0)):=hid (ZkC c);have u:=hid R;clear c F R hi C y s;go_wp2_with fail
 go_loopw [11] (fun i wr=>∃k:Nat,k<=ps.length/\i=.int .i64 k/\Hid (ZeC wr w.heap.size ps.length (D.take k))/\Hid (Below w.heap.size w wr)) (fun i _=>ps.length - (intOf i).toNat)
 case atStart=>exact ⟨0,by omega,rfl,A,u⟩
 case round =>
  obtain ⟨k,hk,rfl,M,t⟩:=hrel;clear A u
  by_cases a:k<ps.length
  ·have t1:decide ((k:Int)<(ps.length:Int))=true:=by simp;omega
   obtain ⟨b,off,x,rfl,q,_,r,E,T⟩:=Y.out.at_ a;have m:=(t.out.cell (p:=⟨b,off+k*2,none⟩) q).trans r;have N:=(t.out.cell (p:=⟨b,off+k*2+1,none⟩) q).trans E;have d:(D.take k).length=k:=by rw [Xi,HL.out];omega
   have j:D.take (k+1)=D.take k++[ps[k].1]:=by
    rw [XG (by rw [HL.out];exact a)];have:=O.out k a;rw [XaP,XW (by rw [HL.out];exact a)] at this;rw [<- this];rfl
   obtain ⟨z,S⟩:=Xn (ps[k].1);rw [S] at m j;obtain ⟨W,cx,rfl,_⟩:=T.shape;generalize ps[k].2.length=nx at *;have e:Below wr.heap.size wr (wr.alloc (.cells #[.int .i64 z,.slice W nx cx] 125)):=(Below.refl _ _).alloc (Xc _) _;have I:=t.out.size;have l:=M.out.keep (Za (fun _=>True) e) trivial;obtain ⟨⟨u0,f1⟩,f2⟩:=l.cell a;have f:=l.next (by rw [d];exact a) z;rw [d,<- j] at f;have X:=hid f;have L:=hid ((t.out.trans (e.mono I)).setCell (p:=⟨w.heap.size,k,none⟩) (Xc _) (.int .i64 z));clear T e l f j d S r E;go_wp2_with fail;go_roundw
   case rel=>exact ⟨k+1,by omega,by go_num,X,L⟩
   case measure=>simp [intOf];omega
  ·obtain rfl:k=ps.length:=by omega
   have t1:decide ((ps.length:Int)<(ps.length:Int))=false:=by simp
   have o:D.take ps.length=D:=by rw [<- HL.out,XC]
   have G:=M.out;rw [o] at G;have U:=hid (G.own HL.out (by unfold maxLen;omega) (Xc _));clear M G o;go_wp2_with fail;go_ret;exact ⟨_,rfl,U.out,t.out⟩
theorem Zet (v:Value) (ps:List Zm) (w:World) (k:Zbp w v ps) (y:ps.length<=1000000000):Calls prog 189 #[v] w fun e w'=>e=.returned (.int .i64 (if isL ps=true then 0 else 80))/\Below w.heap.size w w':=by
 have l:=hid (Zl3 v ps w k y);have m:=hid (fun W (x:Below w.heap.size w W)=>ZoY v ps W (k.below x));obtain ⟨p,F,rfl,z,C,_⟩:=k.shape;unfold isL;obtain ⟨D,o⟩:=Xn (Zeh ps);rw [o] at l ⊢;obtain ⟨O,t⟩:=Xn (ps.any ZdZ);rw [t] at m ⊢;have b:Hid (∀W u,Ze3 w.heap.size W u D->Calls prog 239 #[u,.int .i64 65536] W fun e w'=>e=.returned (.bool (ZcM 65536 D))/\W=w'):=hid (fun W u h=>ZdH u D 65536 W (Ze3.ion h));obtain ⟨R,s⟩:=Xn (ZcM 65536 D);rw [s] at b ⊢;clear k o t s;go_enter func189,ntmps189;go_wp2_with fail;refine l.out.mono ?_;rintro e r ⟨E,rfl,c,a⟩;have q:=hid (b.out r E c);have i:=hid (m.out r a);have j:=hid a;obtain ⟨p1,c1,rfl,_⟩:=(Ze3.irow c).shape;clear m l c a b;cases R with
 | false =>
   go_wp2_with fail;refine q.out.mono ?_;rintro e A ⟨rfl,rfl⟩;go_wp2_with fail;go_ret;exact ⟨rfl,j.out⟩
 | true =>
   go_wp2_with fail;refine q.out.mono ?_;rintro e A ⟨rfl,rfl⟩;go_wp2_with fail;refine i.out.mono ?_;rintro e w3 ⟨rfl,d⟩;have f:=hid (grow j.out d);clear d i;cases O with
   | true =>
     go_wp2_with fail;go_ret;exact ⟨rfl,f.out⟩
   | false =>
     go_wp2_with fail;go_ret;exact ⟨rfl,f.out⟩
variable {B:Nat} {w:World} {xs:List Value}
theorem ZuW:(prog.info? 47).map (fun i=>(i.zero,i.size,i.bytes))=some (some (.slice none 0 0),1,24):=by kernel_rfl
def Zt8 (b off n a i:Nat):Value:=.slice (some ⟨b,off+64*i,none⟩) (min 32 (n - 32*i)) (a - 32*i)
def ZeH (b off n a c:Nat):List Value:=(List.range c).map (Zt8 b off n a)
theorem ZjL (b off n a c:Nat):(ZeH b off n a c).length=c:=by simp [ZeH]
theorem ZrH (b off n a c:Nat):ZeH b off n a (c+1)=ZeH b off n a c++[Zt8 b off n a c]:=by simp [ZeH,XaV]
theorem ZpL (b off n a c i:Nat) (h:i<c):(ZeH b off n a c)[i]? = some (Zt8 b off n a i):=by simp [ZeH,h]
def ZjG (B:Nat) (w:World) (v:Value) (xs:List Value):Prop:=w.ownsRow B 47 1 v xs.length xs
def Zwm (b off n a:Nat) (w:World) (e:Ending) (w':World):Prop:=∃v,e=.returned v/\ZjG w.heap.size w' v (ZeH b off n a (cnt n))/\Below w.heap.size w w'
theorem ZjG.at_ {p:Option Addr} {n d:Nat} (h:ZjG B w (.slice p n d) xs) {k:Nat} {u:Value} (e:xs[k]? = some u) :
  ∃g,p=some ⟨g,0,none⟩/\B<=g/\g<w.heap.size/\w.cell? ⟨g,k,none⟩=some u/\∃a fr,w.heap[g]? = some (.cells a 47 fr):=by
 have l:=(Xal.1 e).1;rcases h.2 with ⟨c,h0⟩|⟨g,cap',a,c,f,b,j,hm,hs,i⟩
 ·omega
 ·simp only [Value.slice.injEq] at c;obtain ⟨rfl,_,_⟩:=c;refine ⟨g,rfl,f,(Xo.1 b).1,?_,a,_,b⟩;have:=Lib.cells_of_row b (xs.length*1) k u (by rw [i];exact e);rw [ZY,XL] at this;exact this
theorem ZjG.shape {v:Value} (h:ZjG B w v xs):∃p a,v=.slice p xs.length a/\xs.length<=a/\a<=maxLen:=by
 rcases h.2 with ⟨rfl,d⟩|⟨g,a,c,rfl,hg,hh,e,b,_⟩
 ·exact ⟨none,0,by rw [d],by omega,by unfold maxLen;omega⟩
 ·exact ⟨_,a,rfl,e,b⟩
theorem ZjC {ops:Array Oper} {rest:List Oper} {o:Oper} {a:Act} {Q:Exit->Act->World->Prop} (j:o.guard=none) (s x:Operand)
  (m:o.op=.call { callee:=.builtin .append,args:=#[s,x],argTypes:=#[249,249] }) (B:Nat) (v:Value) (xs:List Value) (b:World) (u:Value) (t:w=b.alloc (.cells #[u] 47)) (r:u.oneCell'=true) (hs:a.eval s=v) (e:ZjG B b v xs)
  (q:a.eval x=.slice (some ⟨b.heap.size,0,none⟩) 1 1) (l:xs.length<=100000000000) (c:B<=b.heap.size)
  (h:∀v' w',ZjG B w' v' (xs++[u])->Below B b w'->wpList prog ops Q rest (a.put o.dst v') w'):wpList prog ops Q (o::rest) a w:=by
 subst t;obtain ⟨i0,hi,i,g,f⟩:=info_parts ZuW;have d:Below b.heap.size b (b.alloc (.cells #[u] 47)):=(Below.refl _ _).alloc (Xc _) _
 refine Zfo j s x 249 m B 47 i0 (.slice none 0 0) 24 underlying249 hi i g f rfl v xs.length xs hs (Zdf (B:=0) e d) (.slice (some ⟨b.heap.size,0,none⟩) 1 1) [u] q
  (Row.of_own (ZdN b [u] 47 0 (XU _) (by unfold maxLen;simp))) (fun y k=>by simp at k;subst k;exact r)
  (by unfold maxLen;simp;omega) (by simp;omega) (by simp;omega) (fun v' w' p n=>h v' w' (by unfold ZjG;rw [Xd];exact p) (Below.trans (d.mono c) n))
def ZwB (b off n a i:Nat) (v:Value):Prop:=∃q c,v=.slice q (n - 32*i) c/\(32*i<n->q=some ⟨b,off+64*i,none⟩/\c=a - 32*i)
theorem ZlM (b off n a:Nat) (q:Option Addr) (w:World) (R:0<n->q=some ⟨b,off,none⟩) (ad:n<=a) (L:a<=maxLen) (hn:n<=1000000000):Calls prog 168 #[.slice q n a,.int .i64 32] w (Zwm b off n a w):=by
 unfold maxLen at L;have k:Hid (ZjG w.heap.size w (.slice none 0 0) (ZeH b off n a 0)):=hid (World.ownsRow_nil _ _ _ _);have t:Hid (ZwB b off n a 0 (.slice q n a)):=hid ⟨q,a,by rw [XaY,Nat.sub_zero],fun h=>⟨R (by omega),by omega⟩⟩;clear R;go_enter func168,ntmps168;go_wp2_with fail
 go_loopw [0,5] (fun r u wr=>∃i:Nat,i<=cnt n/\Hid (ZwB b off n a i r)/\Hid (ZjG w.heap.size wr u (ZeH b off n a i))/\Hid (Below w.heap.size w wr)) (fun r _ _=>match r with | .slice _ m _=>m|_=>0)
 case atStart=>exact ⟨0,by omega,t,k,hid (Below.refl _ _)⟩
 case round =>
  obtain ⟨i,hi,G,o,I⟩:=hrel;clear k t;obtain ⟨q1,c1,rfl,v⟩:=G.out;have H:=I.out.size;unfold cnt at hi
  by_cases f:32*i<n
  ·obtain ⟨rfl,rfl⟩:=v f;have t1:decide (((n - 32*i:Nat):Int)>0)=true:=Xt;obtain ⟨m,D⟩:=Xn (min 32 (n - 32*i));obtain ⟨r,S⟩:=Xn (n - 32*i);obtain ⟨c,E⟩:=Xn (a - 32*i);have g:=ZrH b off n a i;unfold Zt8 at g;rw [D,E] at g;rw [S] at t1 D ⊢;rw [E];have Y:=hid g
   have z:Hid (∀j c2,(c≠m->j=some ⟨b,off+64*i+m*2,none⟩/\c2=c - m)->ZwB b off n a (i+1) (.slice j (r - m) c2)):=hid (fun j c2 h=>⟨j,c2,by rw [show n - 32*(i+1)=r - m by omega],fun T=>by
    obtain ⟨h1,h2⟩:=h (by omega);exact ⟨by rw [h1,show off+64*i+m*2=off+64*(i+1) by omega],by omega⟩⟩)
   have ab:m<=r:=by omega
   have ac:r<=c:=by omega
   have Z:0<m:=by omega
   have V:(if (r:Int)<32 then (r:Int) else 32)=(m:Int):=by split<;>omega
   have N:(if 32<(r:Int) then 32 else (r:Int))=(m:Int):=by split<;>omega
   have M:min 32 (r:Int)=(m:Int):=by omega
   have p:(ZeH b off n a i).length<=100000000000:=by rw [ZjL];omega
   have s:i+1<=(n+31) / 32:=by omega
   have X:=hid f;obtain ⟨pu,cu,rfl,J,F⟩:=o.out.shape;have aa:=hid D;have C:Hid (r - m<r):=hid (by omega);clear D E f S g hi G;go_wp2_with (at_builtin;refine ZjC rfl _ _ rfl w.heap.size _ (ZeH b off n a i) wr (.slice (some ⟨b,off+64*i,none⟩) m c) rfl rfl rfl o.out rfl p H ?_)
   intro v4 w4 d y;rw [<- Y.out] at d;have A:=hid d;have x:=hid (I.out.trans y);have i1:(m:Int)<=(r:Int):=by omega
   clear d y o J F
   by_cases l:c=m
   ·have e:=hid (fun j c2=>z.out j c2 (fun h=>absurd l h));go_wp2_with fail;go_roundw
    case rel=>exact ⟨i+1,s,e.out _ _,A,x⟩
    case measure=>exact C.out
   ·have e:=hid (z.out (some ⟨b,off+64*i+m*2,none⟩) (c - m) (fun h=>⟨rfl,rfl⟩));go_wp2_with fail;go_roundw
    case rel=>exact ⟨i+1,s,e,A,x⟩
    case measure=>exact C.out
  ·have U:n - 32*i=0:=by omega
   have W:i=cnt n:=by unfold cnt;omega
   have O:Hid (ZjG w.heap.size wr u5 (ZeH b off n a (cnt n))):=by rw [<- W];exact o
   rw [U];clear o v f G U;go_wp2_with fail;go_ret;exact ⟨_,rfl,O.out,I.out⟩
end PW
namespace PM
open VM
variable {lo hi N d:Int} {l r b l0 l1 lk l' lz:Xu} {n i x j S:Nat} {o ok oh o':Bool} {qs:List Int}
def Ze (lo hi:Int) (l:Xu) (o:Bool):Nat×Xu×Bool:=match ZaM lo hi l with
 | some (n,r)=>(n,r,o)
 | none=>(0,[],true)
theorem ZbV (h:ZaM lo hi l=some (n,r)) (o:Bool):Ze lo hi l o=(n,r,o):=by unfold Ze;rw [h]
theorem Zav (h:ZaM lo hi l=none) (o:Bool):Ze lo hi l o=(0,[],true):=by unfold Ze;rw [h]
theorem Zcm (lo hi:Int) (l:Xu):(∃n r,ZaM lo hi l=some (n,r))\/ZaM lo hi l=none:=by
 cases h:ZaM lo hi l with
 | none=>exact .inr rfl
 | some p=>exact .inl ⟨p.1,p.2,rfl⟩
theorem Zc5 (lo hi:Int) (l:Xu) (o:Bool):((Ze lo hi l o).1:Int)<=max 0 hi/\(Ze lo hi l o).2.1.length<=l.length:=by
 rcases Zcm lo hi l with ⟨n,r,h⟩|h
 ·rw [ZbV h];have:=ZbG h;exact ⟨by show (n:Int)<=_;omega,by show r.length<=_;omega⟩
 ·rw [Zav h];exact ⟨by show ((0:Nat):Int)<=_;omega,by simp⟩
theorem Zoh (h:o=true):(Ze lo hi l o).2.2=true:=by
 rcases Zcm lo hi l with ⟨n,r,e⟩|e
 ·rw [ZbV e];exact h
 ·rw [Zav e]
def hby (hs:List (Nat×Nat)):Xu:=hs.flatMap fun h=>Zb h.1++Zb h.2
theorem ZxM (hs:List (Nat×Nat)) (x y:Nat):hby (hs++[(x,y)])=hby hs++(Zb x++Zb y):=by simp [hby]
def HSt (b:Xu) (n:Nat) (o:Bool) (l0:Xu) (i:Nat) (hs:List (Nat×Nat)) (l:Xu) (a:Bool):Prop :=
 hs.length=i/\((a=o/\Zlq b n i hs l/\l0=hby hs++l)\/(a=true/\l=[]/\ZgR b))
theorem ZuT {m:Int} (a:b.length<4611686018427387904) (h:ZaM 0 m b=some (n,l)):HSt b n o l 0 [] l o:=⟨rfl,.inl ⟨rfl,Zp1 a h,rfl⟩⟩
theorem ZxO {a:Bool} {hs:List (Nat×Nat)} (g:b.length<4611686018427387904) (h:HSt b n o l0 i hs l a) (hi:i<cnt n) :
  HSt b n o l0 (i+1) (hs++[((Ze 0 9223372036854775807 l a).1,(Ze 0 9223372036854775807 (Ze 0 9223372036854775807 l a).2.1 (Ze 0 9223372036854775807 l a).2.2).1)])
   (Ze 0 9223372036854775807 (Ze 0 9223372036854775807 l a).2.1 (Ze 0 9223372036854775807 l a).2.2).2.1 (Ze 0 9223372036854775807 (Ze 0 9223372036854775807 l a).2.1 (Ze 0 9223372036854775807 l a).2.2).2.2:=by
 obtain ⟨p,h⟩:=h;refine ⟨by simp [p],?_⟩;rcases h with ⟨rfl,f,k⟩|⟨rfl,rfl,m⟩
 ·rcases Zcm 0 9223372036854775807 l with ⟨x,l1,c⟩|c
  ·rw [ZbV c];dsimp only;rcases Zcm 0 9223372036854775807 l1 with ⟨y,l2,e⟩|e
   ·rw [ZbV e];refine .inl ⟨rfl,ZrQ g f hi c e,?_⟩;rw [k,(ZbG c).1,(ZbG e).1,ZxM];simp only [Xl]
   ·rw [Zav e];exact .inr ⟨rfl,rfl,Zp0 g f hi c e⟩
  ·rw [Zav c];dsimp only;rw [Zav (Zhd _ _)];exact .inr ⟨rfl,rfl,ZpZ g f hi c⟩
 ·rw [Zav (Zhd _ _)];dsimp only;rw [Zav (Zhd _ _)];exact .inr ⟨rfl,rfl,m⟩
def ZCJ (N:Int) (l:Xu) (d:Int) (m k:Nat) (qs:List Int) (lk:Xu):Prop:=∀p r,Zcc N l p r->p.1=d/\p.2.length=m/\qs=p.2.take k/\lk=ZaB (ZaV 0 qs) (p.2.drop k)++r
def QSt (N:Int) (l:Xu) (o:Bool) (d:Int) (m k:Nat) (qs:List Int) (lk:Xu) (ok:Bool):Prop :=
 qs.length=k/\((ok=o/\ZCJ N l d m k qs lk/\l=Zb (d - N).toNat++(Zb m++(ZaB 0 qs++lk))/\N<=d/\d<65536/\ZcM 1048576 qs=true)\/(ok=true/\lk=[]/\∀p r,¬Zcc N l p r))
theorem Ziz {p:Zm} (hN:0<=N) (h:Zcc N l p r):ZaM 0 (65535 - N) l=some ((p.1 - N).toNat,Zb p.2.length++(ZaB 0 p.2++r)):=by
 obtain ⟨a,rfl⟩:=h;unfold okP at a;unfold ZeY;rw [Xl,Xl];exact ZeV (by omega) (by omega) (by omega) _
theorem ZmM {p:Zm} (h:Zcc N l p r) (e:l1=Zb p.2.length++(ZaB 0 p.2++r)):ZaM 1 (min 1048576 (l1.length:Int)) l1=some (p.2.length,ZaB 0 p.2++r):=by
 obtain ⟨c,_⟩:=h;unfold okP at c;have hl:=ZfW c.2.2.2;have h0:=Xac.2 c.2.2.1;have hg:=(ZfN p.2 0).1;have a:p.2.length<=l1.length:=by rw [e,Xd,Xd];omega
 rw [e] at a ⊢;exact ZeV (by omega) (by omega) (by omega) _
theorem Zvr {f:Xu} {m:Nat} (s:0<=N) (g:ZaM 0 (65535 - N) l=some (x,l1)) (h:ZaM 1 (min 1048576 (l1.length:Int)) l1=some (m,f)):QSt N l o (N+x) m 0 [] f o:=by
 have k:=ZbG g;have q:=ZbG h;refine ⟨rfl,.inl ⟨rfl,fun p r e => ?_,?_,by omega,by omega,rfl⟩⟩
 ·have c:=Ziz s e;rw [g] at c;simp only [Xv,X8] at c;have a:=ZmM e c.2;rw [h] at a;simp only [Xv,X8] at a;have:=e.1.1;exact ⟨by omega,a.1.symm,rfl,a.2⟩
 ·rw [ZaB,Xz,<- q.1,show (N+(x:Int) - N).toNat=x by omega];exact k.1
theorem Zoo (e:0<=N) (a:ZaM 0 (65535 - N) l=none):∀p r,¬Zcc N l p r:=fun p r c=>by
 rw [Ziz e c] at a;cases a
theorem Zop (f:0<=N) (g:ZaM 0 (65535 - N) l=some (x,l1)) (c:ZaM 1 (min 1048576 (l1.length:Int)) l1=none):∀p r,¬Zcc N l p r:=fun p r e=>by
 have a:=Ziz f e;rw [g] at a;simp only [Xv,X8] at a;rw [ZmM e a.2] at c;cases c
theorem ZyP {m k:Nat} (h:QSt N l o d m k qs lk ok) (hk:k<m) :
  QSt N l o d m (k+1) (qs++[ZaV 0 qs+(Ze 0 (1048575 - ZaV 0 qs) lk ok).1]) (Ze 0 (1048575 - ZaV 0 qs) lk ok).2.1 (Ze 0 (1048575 - ZaV 0 qs) lk ok).2.2:=by
 obtain ⟨G,h⟩:=h;refine ⟨by simp [G],?_⟩;rcases h with ⟨rfl,C,L,B,v,E⟩|⟨rfl,rfl,H⟩
 ·have t:∀p r,Zcc N l p r->∃(c:k<p.2.length),ZaV 0 qs<=p.2[k]/\p.2[k]<1048576/\lk=Zb (p.2[k] - ZaV 0 qs).toNat++(ZaB (p.2[k]+1) (p.2.drop (k+1))++r):=by
   intro p r q;obtain ⟨s,F,y,f⟩:=C p r q;have c:k<p.2.length:=by omega
   have u:=q.1.2.2.2;rw [X9 c,ZaB,Xl] at f
   have e:p.2=(qs++[p.2[k]])++p.2.drop (k+1):=by
    rw [y,<- XG c,X6]
   have g:Za2 1048576 (0 - 1) (qs++[p.2[k]])=true:=by
    have:∀(a b:List Int) (n:Int),Za2 1048576 n (a++b)=true->Za2 1048576 n a=true:=by
     intro a
     induction a with
     | nil=>intro b n _;rfl
     | cons z a ih =>
       intro b n w;rw [XJ,Za2,Xy] at w;rw [Za2,Xy];exact ⟨w.1,ih b z w.2⟩
    rw [e] at u;exact this _ _ _ u
   rw [Zgx,Xy,Xy,Xg,Xg] at g;exact ⟨c,g.2.1,g.2.2,f⟩
  have hA:=(Zhb 1048576 qs 0 (by omega) E).1;rcases Zcm 0 (1048575 - ZaV 0 qs) lk with ⟨x,l1,s⟩|s
  ·rw [ZbV s];have A:=ZbG s;refine .inl ⟨rfl,fun p r q => ?_,?_,B,v,?_⟩
   ·obtain ⟨J,O,I,e4⟩:=C p r q;obtain ⟨c,F,y,f⟩:=t p r q;rw [A.1] at f;obtain ⟨h5,M⟩:=Zb1 A.2.1 (by omega) f;have D:ZaV 0 qs+(x:Int)=p.2[k]:=by omega
    refine ⟨J,O,?_,?_⟩
    ·rw [XG c,<- I]
     show qs++[ZaV 0 qs+(x:Int)]=_
     rw [D]
    ·show l1=_
     rw [Zgl,M]
     show _=ZaB (ZaV 0 qs+(x:Int)+1) _++r
     rw [D]
   ·show l=_
    rw [L,A.1,Zis]
    show _=Zb (d - N).toNat++(Zb m++(ZaB 0 qs++Zb (ZaV 0 qs+(x:Int) - ZaV 0 qs).toNat++l1))
    rw [show (ZaV 0 qs+(x:Int) - ZaV 0 qs).toNat=x by omega];simp only [Xl]
   ·show Za2 1048576 (0 - 1) (qs++[ZaV 0 qs+(x:Int)])=true
    rw [Zgx,Xy,Xy,Xg,Xg];exact ⟨E,by omega,by omega⟩
  ·rw [Zav s];refine .inr ⟨rfl,rfl,fun p r q => ?_⟩;obtain ⟨c,F,y,f⟩:=t p r q;rw [f,ZeV (by omega) (by omega) (by omega)] at s;cases s
 ·rw [Zav (Zhd _ _)];exact .inr ⟨rfl,rfl,H⟩
def PSt (N:Int) (l:Xu) (o:Bool) (d:Int) (qs:List Int) (l':Xu) (o':Bool):Prop:=N<=d/\d<=max N 65535/\((o'=o/\Zcc N l (d,qs) l')\/(o'=true/\l'=[]/\∀p r,¬Zcc N l p r))
theorem ZBd {m:Nat} (h:QSt N l o d m m qs lk ok) (c:N<=d) (g:d<=max N 65535) (u:m=0->ok=true/\lk=[]/\∀p r,¬Zcc N l p r):PSt N l o d qs lk ok:=by
 refine ⟨c,g,?_⟩;obtain ⟨k,h⟩:=h
 by_cases t:m=0
 ·exact .inr (u t)
 ·rcases h with ⟨rfl,hc,q,f,a,s⟩|h
  ·refine .inl ⟨rfl,⟨f,a,?_,s⟩,?_⟩
   ·intro e;have:qs=[]:=e;rw [this] at k;simp at k;omega
   ·rw [q];unfold ZeY;simp only [Xl];rw [k]
  ·exact .inr h
theorem Zvq (q:0<=N) (l:Xu) (o:Bool):∀c a,Ze 0 (65535 - N) l o=c->Ze 1 (min 1048576 (c.2.1.length:Int)) c.2.1 c.2.2=a ->
  QSt N l o (N+c.1) a.1 0 [] a.2.1 a.2.2/\(a.1=0->a.2.2=true/\a.2.1=[]/\∀p r,¬Zcc N l p r)/\a.1<=1048576/\N+(c.1:Int)<=max N 65535:=by
 intro c a s e;have t:=(Zc5 0 (65535 - N) l o).1;have u:=(Zc5 1 (min 1048576 (c.2.1.length:Int)) c.2.1 c.2.2).1;rw [s] at t;rw [e] at u
 have k:QSt N l o (N+c.1) a.1 0 [] a.2.1 a.2.2/\(a.1=0->a.2.2=true/\a.2.1=[]/\∀p r,¬Zcc N l p r):=by
  rcases Zcm 0 (65535 - N) l with ⟨x,l1,f⟩|f
  ·rw [ZbV f] at s;subst s;dsimp only at e ⊢;rcases Zcm 1 (min 1048576 (l1.length:Int)) l1 with ⟨m,l2,g⟩|g
   ·rw [ZbV g] at e;subst e;refine ⟨Zvr q f g,fun h => ?_⟩;have:=(ZbG g).2.2.2.1;dsimp only at h;omega
   ·rw [Zav g] at e;subst e;exact ⟨⟨rfl,.inr ⟨rfl,rfl,Zop q f g⟩⟩,fun _=>⟨rfl,rfl,Zop q f g⟩⟩
  ·rw [Zav f] at s;subst s;dsimp only at e ⊢;rw [Zav (Zhd _ _)] at e;subst e;exact ⟨⟨rfl,.inr ⟨rfl,rfl,Zoo q f⟩⟩,fun _=>⟨rfl,rfl,Zoo q f⟩⟩
 exact ⟨k.1,k.2,by omega,by omega⟩
def DSt (b:Xu) (n:Nat) (oh:Bool) (l0:Xu) (j:Nat) (ps:List Zm) (l:Xu) (o:Bool):Prop :=
 (oh=true->o=true)/\ps.length=j/\0<=ZI 0 ps/\ZI 0 ps<=65536+j/\((o=false/\Zrw b n j ps l/\l0=ZF 0 ps++l/\okL 0 ps)\/(o=true/\l=[]/\ZgR b))
theorem Zus {hs:List (Nat×Nat)} (h:HSt b n false l0 (cnt n) hs l o):DSt b n o l 0 [] l o:=by
 refine ⟨fun h=>h,rfl,by simp [ZI],by simp [ZI],?_⟩;obtain ⟨_,h⟩:=h;rcases h with ⟨rfl,c,_⟩|⟨rfl,rfl,a⟩
 ·exact .inl ⟨rfl,ZrR c,rfl,trivial⟩
 ·exact .inr ⟨rfl,rfl,a⟩
theorem Zgo (ps:List Zm) (p:Zm):ZI 0 (ps++[p])=p.1+1:=by rw [Zde];rfl
theorem Zxb {ps:List Zm} (h:DSt b n oh l0 j ps l o) (k:j<n) (a:PSt (ZI 0 ps) l o d qs l' o'):DSt b n oh l0 (j+1) (ps++[(d,qs)]) l' o':=by
 obtain ⟨f,w,t,q,h⟩:=h;obtain ⟨p,u,a⟩:=a;refine ⟨fun e => ?_,by simp [w],by rw [Zgo];show 0<=d+1;omega,by rw [Zgo];show d+1<=_;omega,?_⟩
 ·have:=f e;rcases a with ⟨rfl,_⟩|⟨rfl,_⟩
  ·exact this
  ·rfl
 rcases h with ⟨rfl,g,m,c⟩|⟨rfl,rfl,s⟩
 ·rcases a with ⟨rfl,a⟩|⟨rfl,rfl,a⟩
  ·refine .inl ⟨rfl,Zui g k c a,?_,?_⟩
   ·rw [ZbR,ZF,ZF,XI,Xl,<- a.2];exact m
   ·rw [Zgp];exact ⟨c,a.1,trivial⟩
  ·exact .inr ⟨rfl,rfl,Zuh g k a⟩
 ·refine .inr ⟨?_,?_,s⟩
  ·rcases a with ⟨rfl,_⟩|⟨rfl,_⟩<;>rfl
  ·rcases a with ⟨rfl,a⟩|⟨rfl,rfl,a⟩
   ·have:=a.2;have h2:=(Zj9 (ZI 0 ps) (d,qs)).1;have v:=Xp List.length this;rw [Xd,Xm] at v;omega
   ·rfl
def HOk (hs:List (Nat×Nat)) (ps:List Zm) (i:Nat):Prop:=∀k,k<i->hs[k]? = some (h1L ps k,h2L ps k)
theorem ZAA (ps:List Zm) (q:List Zm) (k:Nat) (c:32*(k+1)<=ps.length):h1L (ps++q) k=h1L ps k/\h2L (ps++q) k=h2L ps k/\ZbC (ps++q) k=ZbC ps k:=by
 have a:(ps++q).take (32*(k+1))=ps.take (32*(k+1)):=Xbu c;have e:(ps++q).take (32*k)=ps.take (32*k):=Xbu (by omega);unfold h1L h2L ZbC;rw [a,e];exact ⟨rfl,rfl,rfl⟩
theorem Zxa {ps:List Zm} {hs:List (Nat×Nat)} {W:Xu} {A:Bool} (h:DSt b n A l0 j ps l o) (J:HSt b n false lz (cnt n) hs W oh) (L:j=min n (32*(i+1))) (hi:i<cnt n) (x y:Nat) (p:hs[i]? = some (x,y))
  (S:Nat) (E:o=false->S+ZbC ps i=l0.length) (d:Int) (I:ZI 0 ps=d+1) :
  (o=false->(x:Int)=d->(y:Int)=(S:Int) - (l.length:Int)->(x,y)=(h1L ps i,h2L ps i))/\(¬((x:Int)=d/\(y:Int)=(S:Int) - (l.length:Int))->ZgR b):=by
 obtain ⟨_,hl,M,Y,h⟩:=h;have H:32*i<n:=by unfold cnt at hi;omega
 have c:ps.take (32*(i+1))=ps:=XM (by omega)
 have g:o=false->(Zrw b n j ps l/\l0=ZF 0 ps++l/\okL 0 ps)->h1L ps i=d.toNat/\(h2L ps i:Int)=(S:Int) - (l.length:Int)/\0<=d:=by
  rintro e ⟨f,R,u⟩;have E:=E e;have G:=ZbN ps 0 u;have v:ZbC ps (i+1)=(ZF 0 ps).length:=by unfold ZbC;rw [c]
  have D:l0.length=(ZF 0 ps).length+l.length:=by rw [R,Xd]
  have e3:ZbC ps i<=ZbC ps (i+1):=by
   rw [v];exact ZnQ i
  have e4:1<=ZI 0 ps:=by omega
  refine ⟨by unfold h1L;rw [c,I];congr 1;omega,by unfold h2L;omega,by omega⟩
 constructor
 ·intro e U T;rcases h with ⟨_,f⟩|⟨k,_⟩
  ·obtain ⟨w,C,O⟩:=g e f;rw [w];exact XaL (by show x=d.toNat;omega) (by show y=h2L ps i;omega)
  ·rw [e] at k;cases k
 ·intro z;rcases h with ⟨e,f⟩|⟨_,_,s⟩
  ·obtain ⟨w,C,O⟩:=g e f;rcases J.2 with ⟨_,q,_⟩|⟨_,_,s⟩
   ·intro PS m;obtain ⟨F,V,p3⟩:=f.1 PS m;obtain ⟨q1,X,q3⟩:=q PS m;rw [X,Xa1,List.getElem?_range hi] at p;simp only [Xai,Xv,X8] at p
    have a:ps.take (32*(i+1))=PS.take (32*(i+1)):=by
     rw [c,V,L]
     by_cases B:n<=32*(i+1)
     ·rw [Xao B,<- F,XC,XM (by omega)]
     ·rw [Xa3 (by omega)]
    have t:ps.take (32*i)=PS.take (32*i):=by
     have:=Xp (List.take (32*i)) a;rw [List.take_take,List.take_take,Xao (by omega)] at this;exact this
    have v:h1L PS i=h1L ps i:=by unfold h1L;rw [a]
    have D:h2L PS i=h2L ps i:=by unfold h2L ZbC;rw [a,t]
    apply z;rw [<- p.1,<- p.2,v,D,w];exact ⟨by omega,C⟩
   ·exact s
  ·exact s
theorem ZxN {ps:List Zm} {hs:List (Nat×Nat)}:∀(c i:Nat),(∀k,k<c->hs[k]? = some (h1L ps (i+k),h2L ps (i+k)))->hs.length=c->hby hs=Z4 ps i c:=by
 intro c
 induction c generalizing hs with
 | zero=>intro i h a;have:hs=[]:=XO a;subst this;rfl
 | succ c ih =>
   intro i h a;cases hs with
   | nil=>simp at a
   | cons x hs =>
     have e:=h 0 (by omega);simp at e;subst e;rw [Z4,<- ih (i+1) (fun k hk=>by have:=h (k+1) (by omega);simpa [Xav,Nat.add_comm 1 k] using this) (by simpa using a)];simp [hby,ZgI]
theorem Zw9 {ps:List Zm} {hs:List (Nat×Nat)} {m:Int} (v:ZaM 0 m b=some (n,lz)) (p:HSt b n false lz (cnt n) hs l0 oh) (h:DSt b n oh l0 n ps [] false) (c:HOk hs ps (cnt n)):Dec b ps:=by
 obtain ⟨g,B,w,u,h⟩:=h;rcases h with ⟨_,hc,s,a⟩|⟨e,_⟩
 ·rcases p.2 with ⟨_,z,y⟩|⟨f,_,_⟩
  ·refine ⟨(Zee ps).2 a,?_⟩;have q:=ZxN (ps:=ps) (hs:=hs) (cnt n) 0 (fun k A=>by rw [XL];exact c k A) p.1;have t:=ZbG v;unfold ZV;rw [B,<- q,Xl,t.1,y,s,XI]
  ·have:=g f;cases this
 ·cases e
theorem Zth {ps:List Zm} (h:DSt b n oh l0 n ps l o) (a:o=true\/l≠[]):ZgR b:=by
 obtain ⟨p,hl,m,g,h⟩:=h;rcases h with ⟨q,f,he,e⟩|⟨_,_,k⟩
 ·intro PS c;have:=(ZwV f c).2;rcases a with a|a
  ·rw [q] at a;cases a
  ·exact a this
 ·exact k
theorem Zo3 {ps:List Zm} (h:DSt b n oh l0 j ps l o):l.length<=l0.length:=by
 rcases h.2.2.2.2 with ⟨_,_,a,_⟩|⟨_,rfl,_⟩
 ·rw [a,Xd];omega
 ·simp
theorem ZAC {hs:List (Nat×Nat)} (h:HSt b n o lz i hs l0 oh):l0.length<=lz.length:=by
 rcases h.2 with ⟨_,_,a⟩|⟨_,rfl,_⟩
 ·rw [a,Xd];omega
 ·simp
theorem ZuS (e:b.length<4611686018427387904):∀r,Ze 0 (min 65536 ((b.length / 3:Nat):Int)) b false=r->HSt b r.1 false r.2.1 0 [] r.2.1 r.2.2/\r.1<=65536/\r.2.1.length<=b.length/\(r.2.2=true\/ZaM 0 (min 65536 ((b.length / 3:Nat):Int)) b=some (r.1,r.2.1)):=by
 intro r c;have a:=Zc5 0 (min 65536 ((b.length / 3:Nat):Int)) b false;rw [c] at a;rcases Zcm 0 (min 65536 ((b.length / 3:Nat):Int)) b with ⟨n,l,h⟩|h
 ·rw [ZbV h] at c;subst c;exact ⟨ZuT e h,by dsimp only at a ⊢;omega,a.2,.inr h⟩
 ·rw [Zav h] at c;subst c;exact ⟨⟨rfl,.inr ⟨rfl,rfl,ZrP rfl h⟩⟩,by simp,by simp,.inl rfl⟩
def ISt (b:Xu) (n:Nat) (oh:Bool) (l0:Xu) (hs:List (Nat×Nat)) (i S j:Nat) (ps:List Zm) (l:Xu) (o:Bool):Prop:=DSt b n oh l0 (32*i+j) ps l o/\(o=false->HOk hs ps i/\S+ZbC ps i=l0.length)
theorem ZuY {hs:List (Nat×Nat)} {ps:List Zm} (h:DSt b n oh l0 (min n (32*i)) ps l o) (hi:i<cnt n) (f:o=false->HOk hs ps i):ISt b n oh l0 hs i l.length 0 ps l o:=by
 have e:min n (32*i)=32*i+0:=by unfold cnt at hi;omega
 rw [e] at h;refine ⟨h,fun c=>⟨f c,?_⟩⟩;obtain ⟨_,hl,_,_,h⟩:=h;rcases h with ⟨_,hc,g,k⟩|⟨a,_⟩
 ·unfold ZbC;rw [XM (by omega),g,Xd];omega
 ·rw [c] at a;cases a
theorem ZxY {hs:List (Nat×Nat)} {ps:List Zm} (h:ISt b n oh l0 hs i S j ps l o) (q:32*i+j<n) (m:PSt (ZI 0 ps) l o d qs l' o'):ISt b n oh l0 hs i S (j+1) (ps++[(d,qs)]) l' o':=by
 refine ⟨Zxb h.1 q m,fun g => ?_⟩;have hl:=h.1.2.1
 have a:o=false:=by
  rcases m.2.2 with ⟨e,_⟩|⟨e,_⟩
  ·rw [<- e];exact g
  ·rw [g] at e;cases e
 obtain ⟨s,f⟩:=h.2 a;constructor
 ·intro k t;obtain ⟨p,c,_⟩:=ZAA ps [(d,qs)] k (by omega);rw [p,c];exact s k t
 ·have c:(ps++[(d,qs)]).take (32*i)=ps.take (32*i):=Xbu (by omega);unfold ZbC at f ⊢;rw [c];exact f
theorem ZAH {f:Bool} {hs:List (Nat×Nat)} {ps:List Zm} (h:ISt b n oh l0 hs i S j ps l o) (q:HSt b n false lz (cnt n) hs l0 f) (hi:i<cnt n) (m:32*i+j=min n (32*(i+1))) {y:Nat} (p:hs[i]? = some (x,y)) (s:ZI 0 ps=d+1) :
  ((x:Int)=d/\(y:Int)=(S:Int) - (l.length:Int)->DSt b n oh l0 (min n (32*(i+1))) ps l o/\(o=false->HOk hs ps (i+1)))/\(¬((x:Int)=d/\(y:Int)=(S:Int) - (l.length:Int))->ZgR b):=by
 have a:=Zxa h.1 q m hi x y p S (fun c=>(h.2 c).2) d s;refine ⟨fun g=>⟨m▸h.1,fun c k hk => ?_⟩,a.2⟩
 by_cases e:k=i
 ·subst e;rw [p,a.1 c g.1 g.2]
 ·exact (h.2 c).1 k (by omega)
theorem Zn9 (p q:List Zm) (a:∀k,h1L p k<18446744073709551616/\h2L p k<18446744073709551616) (e:∀k,h1L q k<18446744073709551616/\h2L q k<18446744073709551616):∀(c i:Nat) (l m:Xu),Z4 p i c++l=Z4 q i c++m->l=m
 | 0,i,l,m,h=>h
 | c+1,i,l,m,h=>by
   rw [Z4,Z4,ZgI,ZgI] at h;simp only [Xl] at h;obtain ⟨_,h⟩:=Zb1 (a i).1 (e i).1 h;obtain ⟨_,h⟩:=Zb1 (a i).2 (e i).2 h;exact Zn9 p q a e c (i+1) l m h
theorem ZpM:∀(p q:List Zm) (n:Int),0<=n->okL n p->okL n q->p.length=q.length->ZF n p=ZF n q->p=q
 | [],[],_,_,_,_,_,_=>rfl
 | [],_::_,_,_,_,_,h,_=>by simp at h
 | _::_,[],_,_,_,_,h,_=>by simp at h
 | a::p,c::q,n,hn,hp,hq,hl,h=>by
   rw [okL] at hp hq;rw [ZF,ZF] at h;obtain ⟨e,f⟩:=ZmN (l:=ZeY n a++ZF (a.1+1) p) hn ⟨hp.1,rfl⟩ ⟨hq.1,h⟩;subst e;rw [ZpM p q (a.1+1) (by have:=hp.1.1;omega) hp.2 hq.2 (by simpa using hl) f]
theorem ZAi {p q:List Zm} (hb:b.length<4611686018427387904) (c:Dec b p) (a:Dec b q):p=q:=by
 have a1:=Zld c;have a2:=Zld a;have e:=c.2.trans a.2.symm;unfold ZV at e;simp only [Xl] at e;obtain ⟨f,g⟩:=Zb1 (by omega) (by omega) e;rw [<- f] at g;have s1:=fun k=>Zi5 c k;have s2:=fun k=>Zi5 a k;have h:=Zn9 p q (fun k=>by have:=s1 k;omega) (fun k=>by have:=s2 k;omega) _ _ _ _ g;exact ZpM p q 0 (Xa7 _) ((Zee p).1 c.1) ((Zee q).1 a.1) f h
open Classical in
noncomputable def ZoZ (b:Xu):Option (List Zm):=if h:∃ps,Dec b ps then some (Classical.choose h) else none
theorem ZnL {ps:List Zm} (c:b.length<4611686018427387904) (h:Dec b ps):ZoZ b=some ps:=by
 have a:∃ps,Dec b ps:=⟨ps,h⟩;unfold ZoZ;rw [dif_pos a];exact Xp some (ZAi c (Classical.choose_spec a) h)
theorem Zuo (h:ZgR b):ZoZ b=none:=by
 unfold ZoZ;rw [dif_neg (fun a=>by obtain ⟨ps,c⟩:=a;exact h ps c)]
end PM
namespace PW
open RowKit MM PM
variable {z:Int} {qs:List Int}
def Zhg (p:Zm):Bool:=decide (0<=p.1)&&decide (p.1<=65535) && !ZdZ p
def ZkH (qs:List Int) (k:Nat):Prop:=0<=qs.getD k 0/\qs.getD k 0<1048576/\(0<k->qs.getD (k - 1) 0<qs.getD k 0)
theorem Zsq (k:Nat) (c:k<qs.length) (h:¬ZkH qs k):Zhg (z,qs)=false:=by
 unfold Zhg;rw [Bool.eq_false_iff];intro b;rw [Xy] at b;have a:=b.2;unfold ZdZ at a;rw [Bool.not_eq_true',Bool.or_eq_false_iff,Bool.not_eq_false'] at a;exact h ((ZiE 1048576 qs).1 a.2 k c)
theorem Zvg (d:0<=z) (c:z<=65535) (a:qs.length≠0) (h:∀k,k<qs.length->ZkH qs k):Zhg (z,qs)=true:=by
 have b:=(ZiE 1048576 qs).2 h;unfold Zhg ZdZ;cases qs with
 | nil=>simp at a
 | cons q qs=>simp [d,c,b]
theorem Zyu (h:z<0):Zhg (z,qs)=false:=by unfold Zhg;rw [XB (show ¬ 0<=z by omega)];rfl
theorem Zyt (h:65535<z):Zhg (z,qs)=false:=by unfold Zhg;rw [XB (show ¬z<=65535 by omega)];simp
theorem Zvf:Zhg (z,[])=false:=by unfold Zhg ZdZ;simp
theorem ZA3 (z:Int) (x:Value) (qs:List Int) (w:World) (F:IOn (fun _=>True) w x qs):Calls prog 146 #[.agg #[.int .i64 z,x]] w fun e w'=>e=.returned (.bool (Zhg (z,qs)))/\Below w.heap.size w w':=by
 obtain ⟨p,f,rfl,Y,Z,_⟩:=F.shape;unfold maxLen at Z;have a:Below w.heap.size w (w.alloc (.cells #[.int .i64 z,.slice p qs.length f] 125)):=(Below.refl _ _).alloc (Xc _) _
 by_cases v:z<0
 ·have t1:decide (z<0)=true:=Xw v;rw [Zyu v];have g:=hid a;clear F v a;go_enter func146,ntmps146;go_wp2_with fail;go_ret;exact ⟨rfl,g.out⟩
 have t1:decide (z<0)=false:=XB v
 by_cases S:65535<z
 ·have t2:decide (z>65535)=true:=Xw S;rw [Zyt S];have g:=hid a;clear F v a S;go_enter func146,ntmps146;go_wp2_with fail;go_ret;exact ⟨rfl,g.out⟩
 have t2:decide (z>65535)=false:=XB (by omega)
 by_cases T:qs.length=0
 ·have t3:((qs.length:Int) == 0)=true:=by rw [Xan];omega
  have hq:qs=[]:=XO T;have e:Zhg (z,qs)=false:=by rw [hq];exact Zvf
  rw [e];have g:=hid a;clear F v a S hq e T;go_enter func146,ntmps146;go_wp2_with fail;go_ret;exact ⟨rfl,g.out⟩
 have t3:((qs.length:Int) == 0)=false:=Xb;have L:=hid (fun k hk h=>Zsq (z:=z) (qs:=qs) k hk h);have HT:=hid (fun h=>Zvg (z:=z) (qs:=qs) (by omega) (by omega) T h);obtain ⟨o,t⟩:=Xn (Zhg (z,qs));rw [t] at L HT ⊢;have X:=hid (F.keep (Za (fun _=>True) a) fun _ _ h=>h);have g:=hid a;have H0:Hid (∀j,j<0->ZkH qs j):=hid (fun j G=>by omega);obtain ⟨n,A⟩:=Xn qs.length;have M:=hid A;rw [A] at t3 Y a X g L HT ⊢;have d:=a.size;have ab:Hid ((w.alloc (.cells #[.int .i64 z,.slice p n f] 125)).heap[w.heap.size]? = some (.cells #[.int .i64 z,.slice p n f] 125)):=hid (heap_alloc_new _ _);clear F v S T t A;go_enter func146,ntmps146;go_wp2_with fail
 go_loopw [3] (fun i wr=>∃k:Nat,k<=n/\i=.int .i64 k/\Hid (∀j,j<k->ZkH qs j)/\Hid (Below (w.alloc (.cells #[.int .i64 z,.slice p n f] 125)).heap.size (w.alloc (.cells #[.int .i64 z,.slice p n f] 125)) wr)) (fun i _=>n - (intOf i).toNat)
 case atStart=>exact ⟨0,by omega,rfl,H0,hid (Below.refl _ _)⟩
 case round =>
  obtain ⟨k,hk,rfl,q,c⟩:=hrel;clear H0;have D:=(c.out.block w.heap.size (by simp)).trans ab.out;have f0:wr.cell? ⟨w.heap.size,0,none⟩=some (.int .i64 z):=by rw [cell_of_row wr _ 0 _ _ _ D];rfl
  have f1:wr.cell? ⟨w.heap.size,1,none⟩=some (.slice p n f):=by rw [cell_of_row wr _ 1 _ _ _ D];rfl
  by_cases r:k<n
  ·have t4:decide ((k:Int)<(n:Int))=true:=by simp;omega
   have l:k<qs.length:=by rw [M.out];exact r
   obtain ⟨b,off,rfl,ad,_,u⟩:=(X.out.keep (Za (fun _=>True) c.out) fun _ _ h=>h).at_ l;have N:=fun j (G:j<qs.length)=>(((X.out.keep (Za (fun _=>True) c.out) fun _ _ h=>h).at_ G));have W:qs.getD k 0=qs[k]:=by simp [l]
   obtain ⟨y,hy⟩:=Xn (qs[k]);rw [hy] at u W;have R:=hid W;have ae:=hid l;have aa:=hid N;clear hy W N D
   by_cases c1:y<0
   ·have s1:decide (y<0)=true:=Xw c1;have E:o=false:=L.out k r (fun h=>by have:=h.1;rw [R.out] at this;omega);subst E;clear q c1;go_wp2_with fail;go_quiet (fail)
    go_wp2_with fail;go_ret;exact ⟨rfl,MM.below_drewN (g.out.trans (c.out.mono d)) _⟩
   have s1:decide (y<0)=false:=XB c1
   by_cases c2:y>1048575
   ·have s2:decide (y>1048575)=true:=Xw c2;have E:o=false:=L.out k r (fun h=>by have:=h.2.1;rw [R.out] at this;omega);subst E;clear q c1 c2;go_wp2_with fail;go_quiet (fail)
    go_wp2_with fail;go_ret;exact ⟨rfl,MM.below_drewN (g.out.trans (c.out.mono d)) _⟩
   have s2:decide (y>1048575)=false:=XB c2
   by_cases c3:0<k
   ·have s3:decide ((k:Int)>0)=true:=by simp;omega
    obtain ⟨m,hm⟩:∃m,k=m+1:=⟨k - 1,by omega⟩;have I:m<qs.length:=by rw [M.out];omega
    obtain ⟨b',ac,O,_,_,s⟩:=aa.out m I;simp only [Xv,Addr.mk.injEq] at O;obtain ⟨rfl,rfl,_⟩:=O;have C:qs.getD (k - 1) 0=qs[m]:=by rw [show k - 1=m by omega];simp [I]
    obtain ⟨V,H⟩:=Xn (qs[m]);rw [H] at s C;have J:=hid C;have e1:(k:Int) - 1=(m:Int):=by omega
    have e2:IntKind.i64.wrap (m:Int)=(m:Int):=by rw [IntKind.wrap_i64];omega
    have af:m<n:=by omega
    have HM:=hid hm;clear H C hm
    by_cases U:y<=V
    ·have s4:decide (y<=V)=true:=Xw U;have E:o=false:=L.out k r (fun h=>by have:=h.2.2 c3;rw [R.out,J.out] at this;omega);subst E;clear q c1 c2 U;go_wp2_with fail;go_quiet (fail)
     go_wp2_with fail;go_ret;exact ⟨rfl,MM.below_drewN (g.out.trans (c.out.mono d)) _⟩
    ·have s4:decide (y<=V)=false:=XB U
     have B:Hid (∀j,j<k+1->ZkH qs j):=hid (fun j G=>by
      by_cases e:j=k
      ·subst e;unfold ZkH;rw [R.out,J.out];omega
      ·exact q.out j (by omega))
     clear q c1 c2 U;go_wp2_with fail;go_quiet (fail)
     go_wp2_with fail;go_roundw
     case rel=>exact ⟨k+1,by omega,by go_num,B,hid (MM.below_drewN c.out _)⟩
     case measure=>simp [intOf];omega
   ·have s3:decide ((k:Int)>0)=false:=by simp;omega
    have B:Hid (∀j,j<k+1->ZkH qs j):=hid (fun j G=>by
     by_cases e:j=k
     ·subst e;unfold ZkH;rw [R.out];omega
     ·exact q.out j (by omega))
    have s5:decide (0<k)=false:=XB c3;clear q c1 c2;go_wp2_with fail;go_quiet (fail)
    go_wp2_with fail;go_roundw
    case rel=>exact ⟨k+1,by omega,by go_num,B,hid (MM.below_drewN c.out _)⟩
    case measure=>simp [intOf];omega
  ·obtain rfl:k=n:=by omega
   have t4:decide ((k:Int)<(k:Int))=false:=by simp
   have E:o=true:=HT.out (fun j G=>q.out j G);subst E;clear q;go_wp2_with fail;go_ret;exact ⟨rfl,g.out.trans (c.out.mono d)⟩
def Zpd (ps:List Zm) (k:Nat):Prop:=Zhg (ps.getD k (0,[]))=true/\(0<k->(Zeh ps).getD (k - 1) 0<(Zeh ps).getD k 0)
theorem ZxW (ps:List Zm):isL ps=true↔∀k,k<ps.length->Zpd ps k:=by
 rw [Zo7,ZiE,Zp7];constructor
 ·rintro ⟨b,d⟩ k a;have h:=b k a;rw [ZhM ps k a] at h;have f:=d ps[k] (XH a);have e:ps.getD k (0,[])=ps[k]:=by simp [a]
  refine ⟨?_,fun g=>by rw [ZhM ps k a];exact h.2.2 g⟩;rw [e];unfold Zhg ZdZ;rw [Xw h.1,Xw (show ps[k].1<=65535 by omega),f.2];cases hq:ps[k].2 with
  | nil=>exact absurd hq f.1
  | cons q qs=>rfl
 ·intro h
  have c:∀k (a:k<ps.length),0<=ps[k].1/\ps[k].1<=65535/\ps[k].2≠[]/\ZcM 1048576 ps[k].2=true:=by
   intro k a;have b:=(h k a).1;rw [show ps.getD k (0,[])=ps[k] by simp [a]] at b;unfold Zhg ZdZ at b;simp only [Xy,Xg,Bool.not_eq_true',Bool.or_eq_false_iff,Bool.not_eq_false'] at b;exact ⟨b.1.1,b.1.2,by intro e;rw [e] at b;simp at b,b.2.2⟩
  refine ⟨fun k a => ?_,fun p i => ?_⟩
  ·have b:=c k a;have d:=(h k a).2;rw [ZhM ps k a] at d ⊢;exact ⟨b.1,by omega,d⟩
  ·obtain ⟨k,a,rfl⟩:=Xbn i;exact ⟨(c k a).2.2.1,(c k a).2.2.2⟩
theorem ZCo (v:Value) (ps:List Zm) (w:World) (hr:Zbp w v ps):Calls prog 89 #[v] w fun e w'=>e=.returned (.bool (isL ps))/\Below w.heap.size w w':=by
 obtain ⟨p,ai,rfl,aj,H,_⟩:=hr.shape;unfold maxLen at H;have HR:=hid hr;obtain ⟨u,r⟩:=Xn (isL ps);have HF:Hid (∀k,k<ps.length->¬Zpd ps k->u=false):=hid (fun k hk h=>by rw [<- r,Bool.eq_false_iff];intro hc;exact h ((ZxW ps).1 hc k hk));have HT:Hid ((∀k,k<ps.length->Zpd ps k)->u=true):=hid (fun h=>by rw [<- r];exact (ZxW ps).2 h);have H0:Hid (∀k,k<0->Zpd ps k):=hid (fun k hk=>by omega);rw [r];clear hr r;go_enter func89,ntmps89;go_wp2_with fail
 go_loopw [3] (fun i wr=>∃k:Nat,k<=ps.length/\i=.int .i64 k/\Hid (∀j,j<k->Zpd ps j)/\Hid (Below w.heap.size w wr)) (fun i _=>ps.length - (intOf i).toNat)
 case atStart=>exact ⟨0,by omega,rfl,H0,hid (Below.refl _ _)⟩
 case round =>
  obtain ⟨k,hk,rfl,J,HB⟩:=hrel;clear H0
  by_cases B:k<ps.length
  ·have t4:decide ((k:Int)<(ps.length:Int))=true:=by simp;omega
   obtain ⟨F,E⟩:=Xn wr.drew;have M:Below w.heap.size w F:=by rw [<- E];exact HB.out.drew
   obtain ⟨b,off,x,rfl,X,_,N,ac,hx⟩:=(HR.out.below M).at_ B;have s:=ZA3 ps[k].1 x ps[k].2 F hx;have S:ps.getD k (0,[])=(ps[k].1,ps[k].2):=by simp [B]
   have D:=ZhM ps k B;obtain ⟨z,hz⟩:=Xn (ps[k].1);rw [hz] at N s S D;obtain ⟨px,cx,rfl,_⟩:=hx.shape;generalize ps[k].2=l at *;have O:=hid S;have V:=hid D;have n:=hid M;have t:=hid N;have I:=hid ac;have g:=hid X;obtain ⟨R,hR⟩:=Xn (Zhg (z,l));rw [hR] at s;have L:=hid hR;generalize l.length=nl at *;have f:=hid s;clear hx s S D hz hR N ac X M
   have o:Hid (0<k->∃(m:Nat) (y:Int),k=m+1/\m<ps.length/\(Zeh ps).getD (k - 1) 0=y/\F.cell? ⟨b,off+m*2,none⟩=some (.int .i64 y)):=hid (fun Y=>by
    have hm:k - 1<ps.length:=by omega
    obtain ⟨b',ag,x',ad,_,_,hc,_⟩:=(HR.out.below n.out).at_ hm;simp only [Xv,Addr.mk.injEq] at ad;obtain ⟨rfl,rfl,_⟩:=ad;exact ⟨k - 1,ps[k - 1].1,by omega,hm,ZhM ps (k - 1) hm,hc⟩)
   cases R with
   | false =>
     have hf:u=false:=HF.out k B (fun h=>by have:=h.1;rw [O.out,L.out] at this;cases this);subst hf;clear J o;go_wp2_with fail;refine RG.ZaF [(0,true),(1,true),(2,true),(3,true),(4,false),(5,true),(6,true),(7,true),(8,true),(9,true),(10,true),(11,true),(12,true),(13,true),(14,true),(15,true),(16,true),(17,true),(18,true),(19,true),(20,true),(21,true),(22,true),(23,true)] (by kernel_rfl) (by kernel_rfl) rfl (by kernel_rfl) (fun _ _ d _ _ h=>by cases d<;>exact h) ?_;simp only [RG.Zy,XF,XV,XZ,X4,XX];rw [E];have f1:=fun W (c:RG.Zbo F W)=>(c.cell (p:=⟨b,off+k*2,none⟩) g.out).trans t.out;have C:=fun W (c:RG.Zbo F W)=>(c.cell (p:=⟨b,off+k*2+1,none⟩) g.out).trans I.out;repeat ((first|(refine RG.take (by rfl) (by intro W c;go_simp;with_reducible rfl) ?_)|(refine RG.skip (by rfl) ?_)|(refine RG.Zap (by rfl) ?_));simp only [Act.put,Xr,Xs,Xq])
     refine RG.alone (by rfl) (fun K A => ?_);go_simp;refine f.out.mono ?_;rintro e U ⟨rfl,a⟩;go_simp;refine A.out _ _ a ?_;clear A K f1 C;have q:=hid (n.out.trans (a.mono n.out.size));repeat ((first|(refine RG.take (by rfl) (by intro W c;go_simp;with_reducible rfl) ?_)|(refine RG.skip (by rfl) ?_)|(refine RG.Zap (by rfl) ?_));simp only [Act.put,Xr,Xs,Xq])
     refine RG.done ?_;clear a f;go_wp2_with fail;go_ret;exact ⟨rfl,q.out⟩
   | true =>
     by_cases Y:0<k
     ·obtain ⟨m,y,aa,af,ae,H⟩:=o.out Y;have s1:decide ((k:Int)>0)=true:=by simp;omega
      have e1:(k:Int) - 1=(m:Int):=by omega
      have e2:IntKind.i64.wrap (m:Int)=(m:Int):=by rw [IntKind.wrap_i64];omega
      have ab:=hid H;have Z:=hid ae;have ah:=hid aa;clear o H ae aa
      by_cases G:z<=y
      ·have s2:decide (z<=y)=true:=Xw G;have hf:u=false:=HF.out k B (fun h=>by have:=h.2 Y;rw [V.out,Z.out] at this;omega);subst hf;clear J G;go_wp2_with fail;refine RG.ZaF [(0,true),(1,true),(2,true),(3,true),(4,false),(5,true),(6,true),(7,true),(8,true),(9,true),(10,true),(11,true),(12,true),(13,true),(14,true),(15,true),(16,true),(17,true),(18,true),(19,true),(20,true),(21,true),(22,true),(23,true)] (by kernel_rfl) (by kernel_rfl) rfl (by kernel_rfl) (fun _ _ d _ _ h=>by cases d<;>exact h) ?_;simp only [RG.Zy,XF,XV,XZ,X4,XX];rw [E];have f1:=fun W (c:RG.Zbo F W)=>(c.cell (p:=⟨b,off+k*2,none⟩) g.out).trans t.out;have C:=fun W (c:RG.Zbo F W)=>(c.cell (p:=⟨b,off+k*2+1,none⟩) g.out).trans I.out;repeat ((first|(refine RG.take (by rfl) (by intro W c;go_simp;with_reducible rfl) ?_)|(refine RG.skip (by rfl) ?_)|(refine RG.Zap (by rfl) ?_));simp only [Act.put,Xr,Xs,Xq])
       refine RG.alone (by rfl) (fun K A => ?_);go_simp;refine f.out.mono ?_;rintro e U ⟨rfl,a⟩;go_simp;refine A.out _ _ a ?_;clear A K f1 C;have q:=hid (n.out.trans (a.mono n.out.size));have f1:=fun W (c:RG.Zbo U W)=>((a.trans (c.mono a.size)).cell (p:=⟨b,off+k*2,none⟩) g.out).trans t.out;have C:=fun W (c:RG.Zbo U W)=>((a.trans (c.mono a.size)).cell (p:=⟨b,off+m*2,none⟩) g.out).trans ab.out;repeat ((first|(refine RG.take (by rfl) (by intro W c;go_simp;with_reducible rfl) ?_)|(refine RG.skip (by rfl) ?_)|(refine RG.Zap (by rfl) ?_));simp only [Act.put,Xr,Xs,Xq])
       refine RG.done ?_;clear a f f1 C;go_wp2_with fail;go_ret;exact ⟨rfl,q.out⟩
      ·have s2:decide (z<=y)=false:=XB G
       have T:Hid (∀j,j<k+1->Zpd ps j):=hid (fun j hj=>by
        by_cases e:j=k
        ·subst e;unfold Zpd;rw [O.out,V.out,Z.out];exact ⟨L.out,fun _=>by omega⟩
        ·exact J.out j (by omega))
       clear J G;go_wp2_with fail;refine RG.ZaF [(0,true),(1,true),(2,true),(3,true),(4,false),(5,true),(6,true),(7,true),(8,true),(9,true),(10,true),(11,true),(12,true),(13,true),(14,true),(15,true),(16,true),(17,true),(18,true),(19,true),(20,true),(21,true),(22,true),(23,true)] (by kernel_rfl) (by kernel_rfl) rfl (by kernel_rfl) (fun _ _ d _ _ h=>by cases d<;>exact h) ?_;simp only [RG.Zy,XF,XV,XZ,X4,XX];rw [E];have f1:=fun W (c:RG.Zbo F W)=>(c.cell (p:=⟨b,off+k*2,none⟩) g.out).trans t.out;have C:=fun W (c:RG.Zbo F W)=>(c.cell (p:=⟨b,off+k*2+1,none⟩) g.out).trans I.out;repeat ((first|(refine RG.take (by rfl) (by intro W c;go_simp;with_reducible rfl) ?_)|(refine RG.skip (by rfl) ?_)|(refine RG.Zap (by rfl) ?_));simp only [Act.put,Xr,Xs,Xq])
       refine RG.alone (by rfl) (fun K A => ?_);go_simp;refine f.out.mono ?_;rintro e U ⟨rfl,a⟩;go_simp;refine A.out _ _ a ?_;clear A K f1 C;have q:=hid (n.out.trans (a.mono n.out.size));have f1:=fun W (c:RG.Zbo U W)=>((a.trans (c.mono a.size)).cell (p:=⟨b,off+k*2,none⟩) g.out).trans t.out;have C:=fun W (c:RG.Zbo U W)=>((a.trans (c.mono a.size)).cell (p:=⟨b,off+m*2,none⟩) g.out).trans ab.out;repeat ((first|(refine RG.take (by rfl) (by intro W c;go_simp;with_reducible rfl) ?_)|(refine RG.skip (by rfl) ?_)|(refine RG.Zap (by rfl) ?_));simp only [Act.put,Xr,Xs,Xq])
       refine RG.done ?_;clear a f f1 C;go_wp2_with fail;go_roundw
       case rel=>exact ⟨k+1,by omega,by go_num,T,q⟩
       case measure=>simp [intOf];omega
     ·have s1:decide ((k:Int)>0)=false:=by simp;omega
      have s5:decide (0<k)=false:=XB Y
      have T:Hid (∀j,j<k+1->Zpd ps j):=hid (fun j hj=>by
       by_cases e:j=k
       ·subst e;unfold Zpd;rw [O.out];exact ⟨L.out,fun h=>absurd h Y⟩
       ·exact J.out j (by omega))
      clear J o;go_wp2_with fail;refine RG.ZaF [(0,true),(1,true),(2,true),(3,true),(4,false),(5,true),(6,true),(7,true),(8,true),(9,true),(10,true),(11,true),(12,true),(13,true),(14,true),(15,true),(16,true),(17,true),(18,true),(19,true),(20,true),(21,true),(22,true),(23,true)] (by kernel_rfl) (by kernel_rfl) rfl (by kernel_rfl) (fun _ _ d _ _ h=>by cases d<;>exact h) ?_;simp only [RG.Zy,XF,XV,XZ,X4,XX];rw [E];have f1:=fun W (c:RG.Zbo F W)=>(c.cell (p:=⟨b,off+k*2,none⟩) g.out).trans t.out;have C:=fun W (c:RG.Zbo F W)=>(c.cell (p:=⟨b,off+k*2+1,none⟩) g.out).trans I.out;repeat ((first|(refine RG.take (by rfl) (by intro W c;go_simp;with_reducible rfl) ?_)|(refine RG.skip (by rfl) ?_)|(refine RG.Zap (by rfl) ?_));simp only [Act.put,Xr,Xs,Xq])
      refine RG.alone (by rfl) (fun K A => ?_);go_simp;refine f.out.mono ?_;rintro e U ⟨rfl,a⟩;go_simp;refine A.out _ _ a ?_;clear A K f1 C;have q:=hid (n.out.trans (a.mono n.out.size));repeat ((first|(refine RG.take (by rfl) (by intro W c;go_simp;with_reducible rfl) ?_)|(refine RG.skip (by rfl) ?_)|(refine RG.Zap (by rfl) ?_));simp only [Act.put,Xr,Xs,Xq])
      refine RG.done ?_;clear a f;go_wp2_with fail;go_roundw
      case rel=>exact ⟨k+1,by omega,by go_num,T,q⟩
      case measure=>simp [intOf];omega
  ·obtain rfl:k=ps.length:=by omega
   have t4:decide ((ps.length:Int)<(ps.length:Int))=false:=by simp
   have hf:u=true:=HT.out J.out;subst hf;clear J;go_wp2_with fail;go_ret;exact ⟨rfl,HB.out⟩
