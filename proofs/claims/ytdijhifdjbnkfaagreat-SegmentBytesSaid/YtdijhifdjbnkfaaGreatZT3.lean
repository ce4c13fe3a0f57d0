import Derived.Test.YtdijhifdjbnkfaaGreatZT2
import Derived.Deep.AppendLies
set_option maxRecDepth 100000
set_option maxHeartbeats 0
set_option linter.unusedVariables false
set_option linter.unusedSimpArgs false
namespace Go.Proofs.YtdijhifdjbnkfaaGreat
open Tryz
namespace MM
open RowKit
variable {e:TypeId} {S:Nat->Prop} {B n:Nat} {w w':World} {v:Value}
section
variable {α : Type} {C : Codec α}
theorem Zju (w:World) (a:List (List Value)) (es:List α) (g:es.length<=maxLen) (c:Zbs C S w a es) :
  ZD C (fun b=>S b\/b=w.heap.size) (w.alloc (.cells a.flatten.toArray e)) (.slice (some ⟨w.heap.size,0,none⟩) es.length es.length) es:=by
 have f:Below w.heap.size w (w.alloc (.cells a.flatten.toArray e)):=(Below.refl _ _).alloc (Xc _) _;refine ⟨_,_,a,rfl,Xc _,g,(fun h=>by cases h),c.keep (Za _ f) fun b _ h=>.inl h,.inr ⟨w.heap.size,0,rfl,by simp,.inr rfl,fun j u d => ?_⟩⟩;have:=ZdD w a.flatten e j u d;rw [ZY] at this;exact this
theorem Zqg:∀{a:List (List Value)} {n:Nat},(∀r∈a,r.length=n)->∀(k:Nat) (b:k<a.length) (j:Nat) (u:Value),j<n->a.flatten.set (k*n+j) u=(a.set k (a[k].set j u)).flatten
 | r::a,n,h,0,_,j,u,hj=>by
   have c:=h r (by simp);rw [Nat.zero_mul,XL,Xaj,List.set_append_left _ _ (by omega)];simp
 | r::a,n,h,k+1,b,j,u,hj=>by
   have c:=h r (by simp);have e:(k+1)*n+j=r.length+(k*n+j):=by rw [Nat.succ_mul,c];omega
   rw [Xaj,e,List.set_append_right _ _ (by omega),Nat.add_sub_cancel_left,Zqg (fun x d=>h x (by simp [d])) k (by simpa using b) j u hj];simp
theorem ZbI.elem {g r:Nat} {es:List α} (h:ZbI C e B w (.slice (some ⟨g,0,none⟩) n r) es) {k:Nat} (z:k<es.length) :
  ∃vs,C.on (Apt e B w) w vs es[k]/\(∀j u,vs[j]? = some u->w.cell? ⟨g,k*C.size+j,none⟩=some u)/\(∀j,w.frozen? ⟨g,j,none⟩=false) /\
    ∀j u d,j<C.size->C.on (Apt e B w) w (vs.set j u) d->ZbI C e B (w.setCell ⟨g,k*C.size+j,none⟩ u) (.slice (some ⟨g,0,none⟩) n r) (es.set k d):=by
 obtain ⟨c,q,f⟩:=h
 have G:n=es.length:=by
  rcases q.2 with ⟨s,_⟩|⟨g',cap',F,s,_⟩
  ·cases s
  ·simp only [Value.slice.injEq] at s;exact s.2.1
 subst G;have l:k<c.length:=by rw [f.1];exact z
 refine ⟨c[k],f.2 k l z,fun j u x => ?_,fun j=>World.ownsRow.frozenAt q j,fun j u d x E => ?_⟩
 ·have D:=flat_get f.lens k l j u x;have a:=(Xal.1 D).1;rw [World.ownsRow.cellAt q _ (by rw [ZeQ f.lens,f.1] at a;exact a)];exact D
 ·have hs:=(World.ownsRow.stored q (k*C.size+j) u).1;rw [Zqg f.lens k l j u x] at hs;have y:¬Apt e B w g:=fun t=>Zc1 q t rfl;have o:Kep (Apt e B w) w (w.setCell ⟨g,k*C.size+j,none⟩ u):=Zx y u;refine ⟨c.set k (c[k].set j u),by rw [Xay];exact hs,by rw [Xay,Xay,f.1],fun i hi p => ?_⟩;rw [Xay] at hi p;have A:∀b,b<w.heap.size->Apt e B w b->Apt e B (w.setCell ⟨g,k*C.size+j,none⟩ u) b:=fun b a t=>ZiU t (o.block b a t)
  by_cases m:i=k
  ·subst m;rw [Xbp,Xbp];exact C.keep E o A
  ·rw [Xa2 (fun e=>m e.symm),Xa2 (fun e=>m e.symm)];exact C.keep (f.2 i hi p) o A
variable (C)
def Zbf (e:TypeId) (S:Nat->Prop) (w:World) (v:Value) (es:List α):Prop:=∃a,w.ownsRow 0 e C.size v es.length a.flatten/\Zbs C S w a es/\∀g,v.ownBlock=some g->¬S g
variable {C}
theorem Zbf.nil_ (e:TypeId) (S:Nat->Prop) (w:World):Zbf C e S w (.slice none 0 0) []:=⟨[],World.ownsRow_nil _ _ _ _,Zbs.nil_ _ _,fun g h=>by cases h⟩
theorem Zd0 {size:Nat} {f:List Value} (h:w.ownsRow B e size v n f) (l:Kep S w w') (i:∀g,v.ownBlock=some g->S g):w'.ownsRow B e size v n f:=by
 refine ⟨h.1,?_⟩;rcases h.2 with j|⟨g,b,a,d,k,c,rest⟩
 ·exact .inl j
 ·exact .inr ⟨g,b,a,d,k,by rw [l.block g (Xo.1 c).1 (i g (by rw [d];rfl))];exact c,rest⟩
theorem Zbf.keep {T:Nat->Prop} {es:List α} (h:Zbf C e S w v es) (f:Kep T w w') (m:∀b,b<w.heap.size->S b->T b) (k:∀g,v.ownBlock=some g->T g):Zbf C e S w' v es:=by
 obtain ⟨c,l,j,o⟩:=h;exact ⟨c,Zd0 l f k,⟨j.1,fun i hi d=>C.keep (C.keep (j.2 i hi d) (Kep.refl _ _) (T:=fun b=>S b/\b<w.heap.size) fun b a hs=>⟨hs,a⟩) (f.mono' (T:=fun b=>S b/\b<w.heap.size) fun b a hs=>m b a hs.1) fun b a hs=>hs.1⟩,o⟩
theorem Zbf.weak {T:Nat->Prop} {es:List α} (h:Zbf C e S w v es) (f:∀b,b<w.heap.size->S b->T b) (c:∀g,v.ownBlock=some g->¬T g):Zbf C e T w v es:=by
 obtain ⟨a,d,i,h3⟩:=h;exact ⟨a,d,i.keep (Kep.refl _ _) f,c⟩
theorem Zbf.ron {T:Nat->Prop} {es:List α} (h:Zbf C e S w v es) (p:∀g,v.ownBlock=some g->T g) (s:∀b,b<w.heap.size->S b->T b):ZD C T w v es:=by
 obtain ⟨a,r,k,_⟩:=h;rcases r.2 with ⟨rfl,o⟩|⟨g,f,l,rfl,hg,i,c,d,hs,q⟩
 ·have:es=[]:=XO o;subst this;exact ZD.nil_ _ _
 ·refine ⟨some ⟨g,0,none⟩,f,a,rfl,c,d,(fun h=>by cases h),k.keep (Kep.refl _ _) s,.inr ⟨g,0,rfl,(Xo.1 i).1,p g rfl,fun j u m => ?_⟩⟩;have:=Lib.cells_of_row i (es.length*C.size) j u (by rw [q];exact m);rw [ZY] at this;exact this
theorem Zbf.any {es:List α} (h:Zbf C e S w v es):ZN C w v es:=h.ron (fun _ _=>trivial) (fun _ _ _=>trivial)
theorem Zbf.lt {es:List α} (h:Zbf C e S w v es):∀g,v.ownBlock=some g->g<w.heap.size/\¬S g:=fun g a=>by obtain ⟨c,d,_,b⟩:=h;exact ⟨(World.ownsRow.lt d g a).2,b g a⟩
theorem Zd8 {P:Program} {T:TypeId} {f:Nat} (E:Elem C P T e f) {o:Oper} {a:Act} {K:Act->World->Prop} {Q:Exit->Act->World->Prop} (s x:Operand)
  (ho:o.op=.call { callee:=.builtin .append,args:=#[s,x],argTypes:=#[T,T] }) (v:Value) (es:List α) (c:World) (vs:List Value) (d:α) (hw:w=c.alloc (.cells vs.toArray e)) (hs:a.eval s=v) (t:Zbf C e S c v es)
  (H:C.on S c vs d) (hx:a.eval x=.slice (some ⟨c.heap.size,0,none⟩) 1 1) (r:es.length+1<=maxLen) (hby:(es.length+1)*f<=140737488355328)
  (h:∀v' w',Zbf C e (fun b=>S b/\b<c.heap.size) w' v' (es++[d])->Kep (fun k=>v.ownBlock≠some k) c w'->(∀g,v'.ownBlock=some g->v.ownBlock=some g\/c.heap.size<=g)->Kep (fun k=>v.ownBlock≠some k) w w'->K (a.put o.dst v') w'):o.wp P a w K Q:=by
 subst hw;have O:Below c.heap.size c (c.alloc (.cells vs.toArray e)):=(Below.refl _ _).alloc (Xc _) _;obtain ⟨i,z,hi,Z,J,G,L⟩:=E.info;obtain ⟨u,V,h2,U⟩:=t;have W:∀k,v.ownBlock=some k->k<c.heap.size:=fun k m=>(World.ownsRow.lt V k m).2;have X:=C.len H;have I:Zbs C (fun b=>S b/\b<c.heap.size) c (u++[vs]) (es++[d]):=(h2.append (Zbs.single H)).keep (Kep.refl _ _) fun b D hs=>⟨hs,D⟩;have M:=World.ownsRow.alloc V (.cells vs.toArray e);refine wp_append_lies _ s x T ho 0 e i z C.size f E.under hi Z J G L C.pos v es.length _ hs M ⟨c.heap.size,0,none⟩ 1 1 vs hx (by rw [X,Nat.one_mul]) (ZdD c vs e) (C.one H) (by omega) r hby (XU _) _ rfl (fun g F w' Y R j _ => ?_);have m:Kep (fun k=>v.ownBlock≠some k) c w':=(Za _ O).trans (ZM R fun k m q=>q m)
 have l:∀y,(Value.slice (some ⟨g,0,none⟩) (es.length+1) F).ownBlock=some y->v.ownBlock=some y\/c.heap.size<=y:=fun y p=>by
  have:g=y:=XP p;subst this;rcases j with N|N
  ·exact .inl N
  ·right;rw [N];simp
 refine h _ w' ⟨u++[vs],?_,I.keep (m.mono' fun b D hs A=>U b A hs.1) fun b D hs=>hs,?_⟩ m l (ZM R fun k m q=>q m)
 ·rw [Xd,XaO,Xbo];exact Y
 ·intro g p hs;rcases l g p with A|A
  ·exact U g A hs.1
  ·omega
end
variable {S:Nat->Prop} {w:World} {v:Value} {B bytes:Nat} {e:TypeId} {P:Program} {o:Oper} {a:Act}
section
variable {α : Type} {C : Codec α}
variable (C)
def Zz (e:TypeId) (B:Nat) (S:Nat->Prop) (w:World) (v:Value) (es:List α):Prop:=∃b,w.ownsRow B e C.size v es.length b.flatten/\Zbs C S w b es
def Zdk (S:Nat->Prop) (w:World) (v:Value) (f:List α):Prop :=
 ∃(p:Option Addr) (c:Nat) (d:List (List Value)),v=.slice p f.length c/\f.length<=c/\(p=none->c=0)/\Zbs C S w d f/\(f=[]\/∃b off,p=some ⟨b,off,none⟩/\∀j u,d.flatten[j]? = some u->w.cell? ⟨b,off+j,none⟩=some u)
variable {C}
theorem ZD.src {g:List α} (h:ZD C S w v g):Zdk C S w v g:=by
 obtain ⟨p,f,d,k,j,h2,l,i,c⟩:=h;refine ⟨p,f,d,k,j,l,i,?_⟩;rcases c with c|⟨b,off,m,_,_,c⟩
 ·exact .inl c
 ·exact .inr ⟨b,off,m,c⟩
theorem Zby {vs:List Value} {d:α} (e:TypeId) (h:C.on S w vs d):Zdk C S (w.alloc (.cells vs.toArray e)) (.slice (some ⟨w.heap.size,0,none⟩) 1 1) [d]:=by
 refine ⟨_,1,[vs],rfl,Xc _,(fun h=>by cases h),⟨rfl,fun i hi c => ?_⟩,.inr ⟨w.heap.size,0,rfl,fun j u b => ?_⟩⟩
 ·obtain rfl:i=0:=(by simpa using hi);exact C.keep h (Zr _ _ _) fun _ _ h=>h
 ·rw [Xbo] at b;have:=ZdD w vs e j u b;rw [ZY] at this;exact this
theorem Zz.nil_ (e:TypeId) (B:Nat) (S:Nat->Prop) (w:World):Zz C e B S w (.slice none 0 0) []:=⟨[],World.ownsRow_nil _ _ _ _,Zbs.nil_ _ _⟩
theorem Zz.lit0 (e:TypeId) (S:Nat->Prop) (w:World) (b:B<=w.heap.size):Zz C e B S (w.alloc (.cells #[] e)) (.slice (some ⟨w.heap.size,0,none⟩) 0 0) []:=by
 refine ⟨[],?_,Zbs.nil_ _ _⟩;have:=World.ownsRow_lit (e:=e) (base:=B) (size:=C.size) w #[] 0 b (XU _) (by simp);simpa using this
theorem Zz.cells {es:List α} (h:Zz C e B S w v es) {g:Nat} (b:v.ownBlock=some g):B<=g/\g<w.heap.size/\∃c fr,w.heap[g]? = some (.cells c e fr):=by
 obtain ⟨f,d,_⟩:=h;exact ⟨(Zbk d b).1,(World.ownsRow.lt d g b).2,(Zbk d b).2⟩
theorem Zz.keep {T:Nat->Prop} {w':World} {es:List α} (h:Zz C e B S w v es) (j:Kep T w w') (n:∀b,b<w.heap.size->S b->T b) (l:∀g,v.ownBlock=some g->T g):Zz C e B S w' v es:=by
 obtain ⟨d,m,k⟩:=h;refine ⟨d,Zd0 m j l,k.1,fun i hi f => ?_⟩;exact C.keep (C.keep (k.2 i hi f) (Kep.refl _ _) (T:=fun b=>S b/\b<w.heap.size) fun b c hs=>⟨hs,c⟩) (j.mono' (T:=fun b=>S b/\b<w.heap.size) fun b c hs=>n b c hs.1) fun b c hs=>hs.1
theorem Zz.weak {T:Nat->Prop} {es:List α} (h:Zz C e B S w v es) (d:∀b,b<w.heap.size->S b->T b):Zz C e B T w v es:=by
 obtain ⟨c,g,f⟩:=h;exact ⟨c,g,f.keep (Kep.refl _ _) d⟩
theorem Zz.alloc {es:List α} (h:Zz C e B S w v es) (o:Obj):Zz C e B S (w.alloc o) v es:=h.keep (Zr (fun _=>True) w o) (fun _ _ _=>trivial) (fun _ _=>trivial)
theorem Zz.ron {T:Nat->Prop} {es:List α} (h:Zz C e B S w v es) (q:∀g,v.ownBlock=some g->T g) (t:∀b,b<w.heap.size->S b->T b):ZD C T w v es:=by
 obtain ⟨c,s,l⟩:=h;rcases s.2 with ⟨rfl,p⟩|⟨g,i,m,rfl,hg,k,d,f,hs,r⟩
 ·have:es=[]:=XO p;subst this;exact ZD.nil_ _ _
 ·refine ⟨some ⟨g,0,none⟩,i,c,rfl,d,f,(fun h=>by cases h),l.keep (Kep.refl _ _) t,.inr ⟨g,0,rfl,(Xo.1 k).1,q g rfl,fun j u n => ?_⟩⟩;have:=Lib.cells_of_row k (es.length*C.size) j u (by rw [r];exact n);rw [ZY] at this;exact this
theorem Zz.any {es:List α} (h:Zz C e B S w v es):ZN C w v es:=h.ron (fun _ _=>trivial) (fun _ _ _=>trivial)
theorem Zf {T:TypeId} (E:Elem C P T e bytes) {ops:Array Oper} {rest:List Oper} {Q:Exit->Act->World->Prop} (y:o.guard=none) (s x:Operand)
  (V:o.op=.call { callee:=.builtin .append,args:=#[s,x],argTypes:=#[T,T] }) (B:Nat) (v:Value) (es:List α) (hs:a.eval s=v) (c:Zz C e B S w v es) (hS:∀b,b<w.heap.size->S b->Apt e B w b)
  (src:Value) (l:List α) (W:a.eval x=src) (hr:Zdk C S w src l) (r:es.length+l.length<=maxLen) (hby:(es.length+l.length)*bytes<=140737488355328) (d:B<=w.heap.size)
  (h:∀v' w',Zz C e B S w' v' (es++l)->Below B w w'->Kep (fun k=>v.ownBlock≠some k) w w'->wpList P ops Q rest (a.put o.dst v') w'):wpList P ops Q (o::rest) a w:=by
 obtain ⟨p,N,f,rfl,h1,h3,A,q⟩:=hr;obtain ⟨i,z,hi,hz,H,F,M⟩:=E.info;cases p with
 | none =>
   have h0:=h3 rfl;subst h0;have Y:l=[]:=XO (by omega);subst Y;obtain ⟨g,t,O⟩:=id c;refine wpList_append_own_none y s x T V B e i C.size E.under hi v es.length _ hs t W (h v w ?_ (Below.refl _ _) (Kep.refl _ _));rw [XI];exact c
 | some U =>
   refine wpList_plain y fun _ X => ?_;obtain ⟨g,t,O⟩:=c;have I:∀k,v.ownBlock=some k->B<=k:=fun k m=>(World.ownsRow.lt t k m).1;have Z:f.flatten.length=l.length*C.size:=by rw [ZeQ A.lens,A.1]
   refine wp_append_own _ s x T V B e i z C.size bytes E.under hi hz H F M C.pos v es.length _ hs t U l.length N f.flatten W Z ?_ A.ones r hby d (fun v' w' h4 G _ => ?_)
   ·intro j u R;rcases q with q|⟨b,off,he,q⟩
    ·subst q;have:f=[]:=XO (by rw [A.1];rfl);subst this;simp at R
    ·obtain rfl:U=⟨b,off,none⟩:=XP he;rw [ZY];exact q j u R
   ·have n:Below B w w':=(Below.refl B _).grown G d I;have m:Kep (Apt e B w) w w':=ZM G fun k m hA=>Zc1 t hA m;refine X _ _ (h v' w' ⟨g++f,?_,?_⟩ n (ZM G fun k m L=>L m))
    ·rw [Xd,XaO];exact h4
    ·have D:=O.append A;refine ⟨D.1,fun i hi J => ?_⟩;exact C.keep (C.keep (D.2 i hi J) (Kep.refl _ _) (T:=fun b=>S b/\b<w.heap.size) fun b n hs=>⟨hs,n⟩) (m.mono' (T:=fun b=>S b/\b<w.heap.size) fun b n hs=>hS b n hs.1) fun b n hs=>hs.1
theorem ZgF {T:TypeId} (E:Elem C P T e bytes) {K:Act->World->Prop} {Q:Exit->Act->World->Prop} (s x:Operand)
  (W:o.op=.call { callee:=.builtin .append,args:=#[s,x],argTypes:=#[T,T] }) (B:Nat) (v:Value) (es:List α) (c:World) (vs:List Value) (d:α) (hw:w=c.alloc (.cells vs.toArray e)) (hs:a.eval s=v) (r:Zz C e B S c v es) (Y:∀b,b<c.heap.size->S b->Apt e B c b)
  (y:C.on S c vs d) (Z:a.eval x=.slice (some ⟨c.heap.size,0,none⟩) 1 1) (q:es.length+1<=maxLen) (hby:(es.length+1)*bytes<=140737488355328) (m:B<=c.heap.size)
  (h:∀v' w',Zz C e B S w' v' (es++[d])->Below B c w'->Kep (fun k=>v.ownBlock≠some k) w w'->(∃g f,v'=.slice (some ⟨g,0,none⟩) (es.length+1) f)->K (a.put o.dst v') w'):o.wp P a w K Q:=by
 subst hw;have n:Below c.heap.size c (c.alloc (.cells vs.toArray e)):=(Below.refl _ _).alloc (Xc _) _;obtain ⟨i,z,hi,U,F,u,H⟩:=E.info;obtain ⟨j,J,O⟩:=r;have M:=Zdf (B:=0) J n;have G:∀k,v.ownBlock=some k->B<=k:=fun k t=>(World.ownsRow.lt M k t).1;have N:=C.len y;refine wp_append_own _ s x T W B e i z C.size bytes E.under hi U F u H C.pos v es.length _ hs M ⟨c.heap.size,0,none⟩ 1 1 vs Z (by rw [N,Nat.one_mul]) (ZdD c vs e) (C.one y) q hby (by simp;omega) (fun v' w' L D _ => ?_);have p:Below B (c.alloc (.cells vs.toArray e)) w':=(Below.refl B _).grown D (by simp;omega) G;have I:Kep (fun k=>v.ownBlock≠some k) c w':=(Za _ n).trans (ZM D fun k t l=>l t);have A:Zbs C (fun b=>S b/\b<c.heap.size) c (j++[vs]) (es++[d]):=(O.append (Zbs.single y)).keep (Kep.refl _ _) fun b p hs=>⟨hs,p⟩;have hm:Zbs C (fun b=>S b/\b<c.heap.size) w' (j++[vs]) (es++[d]):=A.keep (I.mono' (T:=fun b=>S b/\b<c.heap.size) fun b p hs X=>Zc1 J (Y b p hs.1) X) fun b p hs=>hs;refine h v' w' ⟨j++[vs],?_,hm.keep (Kep.refl _ _) fun b _ hs=>hs.1⟩ ((n.mono m).trans p) (ZM D fun k t l=>l t) ?_
 ·rw [Xd,XaO,Xbo];exact L
 ·rcases L.2 with ⟨_,h0⟩|⟨g,f,R,V,_⟩
  ·omega
  ·exact ⟨g,f,V⟩
end
end MM
namespace GB
open RowKit MM
variable {b c w w':World} {u v:Value} {l:Xu} {B:Nat} {o:Oper}
def Grown (w w':World) (v v':Value):Prop:=w.grownBy w' v.ownBlock/\∀k,v'.ownBlock=some k->v.ownBlock=some k\/w.heap.size<=k
theorem grownBy_refl (w:World) (r:Option Nat):w.grownBy w r:=⟨rfl,rfl,rfl,Xc _,fun _ _ _=>rfl⟩
theorem Grown.refl (w:World) (v:Value):Grown w w v v:=⟨grownBy_refl _ _,fun k h=>.inl h⟩
theorem Grown.trans {a:World} {x:Value} (h:Grown a b u v) (k:Grown b c v x):Grown a c u x:=by
 obtain ⟨d,j⟩:=h;obtain ⟨f,m⟩:=k;refine ⟨⟨f.os.trans d.os,f.tape.trans d.tape,f.output.trans d.output,Xx d.size f.size,fun i hi g => ?_⟩,fun i hi => ?_⟩
 ·rw [f.block i (XK hi d.size) (fun e => ?_),d.block i hi g];rcases j i e.symm with h|h
  ·exact g h.symm
  ·omega
 ·rcases m i hi with h|h
  ·exact j i h
  ·exact .inr (Xx d.size h)
theorem Grown.kep {v':Value} (h:Grown w w' v v'):Kep (fun b=>v.ownBlock≠some b) w w':=ZM h.1 fun k d a=>a d
theorem Grown.of_below {a:World} (h:Below a.heap.size a b) (k:Grown b c u v) (hu:∀i,u.ownBlock=some i->i<a.heap.size):Grown a c u v :=
 ⟨⟨k.1.os.trans h.os,k.1.tape.trans h.tape,k.1.output.trans h.output,Xx h.size k.1.size,fun i hi d=>by rw [k.1.block i (XK hi h.size) d,h.block i hi]⟩,fun i hi=>by
   rcases k.2 i hi with e|e
   ·exact .inl e
   ·exact .inr (Xx h.size e)⟩
theorem Grown.below {a:World} (h:Grown a b u v) (k:Below b.heap.size b c):Grown a c u v :=
 ⟨⟨k.os.trans h.1.os,k.tape.trans h.1.tape,k.output.trans h.1.output,Xx h.1.size k.size,fun i hi d=>by rw [k.block i (XK hi h.1.size),h.1.block i hi d]⟩,h.2⟩
theorem Zaw (h:Zd B w v l):∀i,v.ownBlock=some i->i<w.heap.size:=fun i hi=>(World.ownsRow.lt h i hi).2
theorem Zd.zero (h:Zd B w v l):Zd 0 w v l:=Zd.weaken h (XU _)
theorem Zd.from (h:Zd 0 w v l) (i:∀k,v.ownBlock=some k->B<=k):Zd B w v l:=by
 refine ⟨h.1,?_⟩;rcases h.2 with f|⟨g,d,a,e,hg,rest⟩
 ·exact .inl f
 ·exact .inr ⟨g,d,a,e,i g (by rw [e];rfl),rest⟩
theorem Zd.kepOwn {S:Nat->Prop} (h:Zd B w v l) (n:Kep S w w') (m:∀k,v.ownBlock=some k->S k):Zd B w' v l:=by
 refine ⟨h.1,?_⟩;rcases h.2 with j|⟨g,d,a,f,i,e,rest⟩
 ·exact .inl j
 ·exact .inr ⟨g,d,a,f,i,by rw [n.block g (Xo.1 e).1 (m g (by rw [f];rfl))];exact e,rest⟩
def Zlp (l:Xu) (v:Value) (w:World) (e:Ending) (w':World):Prop:=∃v',e=.returned v'/\Zd 0 w' v' l/\Grown w w' v v'
theorem Zl {ops:Array Oper} {rest:List Oper} {a:Act} {Q:Exit->Act->World->Prop} (t:o.guard=none) (s x:Operand)
  (F:o.op=.call { callee:=.builtin .append,args:=#[s,x],argTypes:=#[23,23] }) (v:Value) (l:Xu) (hs:a.eval s=v) (i:Zd 0 w v l)
  (src:Value) (m:Xu) (G:a.eval x=src) (D:Zq w src m) (H:m≠[]) (A:l.length+m.length<=140737488355328)
  (h:∀v' w',Zd 0 w' v' (l++m)->Grown w w' v v'->wpList prog ops Q rest (a.put o.dst v') w'):wpList prog ops Q (o::rest) a w:=by
 obtain ⟨i0,hi,r,q,n⟩:=info_parts ZaJ;have h0:=Xac.2 H;obtain ⟨p,z,rfl,_,_,h3,f⟩:=D;rcases f with f|⟨b,off,rfl,_,f⟩
 ·have:=Zi m;rw [f] at this;simp at this;omega
 ·refine wpList_append_lies w t s x 23 F 0 5 i0 (.int .u8 0) 1 1 underlying23 hi r q n rfl (by decide) v l.length (Lib.byteCells l) hs i ⟨b,off,none⟩ (Lib.byteCells m).length z (Lib.byteCells m) G (by simp)
   (fun j u E=>by rw [ZY];exact f j u E) (byteCells_one m) (by rw [Zi];omega) (by rw [Zi];unfold maxLen;omega) (by rw [Zi];omega) (XU _) w.heap.size rfl ?_
  intro g cap' w' d e y _;refine h _ w' ?_ ⟨e,fun k C => ?_⟩
  ·unfold Zd;rw [Xd,byteCells_append];rw [Zi] at d ⊢;exact d
  ·simp only [Value.ownBlock,Xv] at C;subst C;rcases y with h|h
   ·exact .inl h
   ·exact .inr (Nat.le_of_eq h.symm)
theorem Zeg {a:Act} {K:Act->World->Prop} {Q:Exit->Act->World->Prop} (s x:Operand)
  (G:o.op=.call { callee:=.builtin .append,args:=#[s,x],argTypes:=#[23,23] }) (v:Value) (l:Xu) (hs:a.eval s=v) (i:Zd 0 w v l)
  (src:Value) (m:Xu) (E:a.eval x=src) (D:Zq w src m) (C:m≠[]) (z:l.length+m.length<=140737488355328)
  (h:∀v' w',Zd 0 w' v' (l++m)->Grown w w' v v'->K (a.put o.dst v') w'):o.wp prog a w K Q:=by
 obtain ⟨i0,hi,y,t,q⟩:=info_parts ZaJ;have h0:=Xac.2 C;obtain ⟨p,r,rfl,_,_,h3,f⟩:=D;rcases f with f|⟨b,off,rfl,_,f⟩
 ·have:=Zi m;rw [f] at this;simp at this;omega
 ·refine wp_append_lies w s x 23 G 0 5 i0 (.int .u8 0) 1 1 underlying23 hi y t q rfl (by decide) v l.length (Lib.byteCells l) hs i ⟨b,off,none⟩ (Lib.byteCells m).length r (Lib.byteCells m) E (by simp)
   (fun j u F=>by rw [ZY];exact f j u F) (byteCells_one m) (by rw [Zi];omega) (by rw [Zi];unfold maxLen;omega) (by rw [Zi];omega) (XU _) w.heap.size rfl ?_
  intro g cap' w' d e n _;refine h _ w' ?_ ⟨e,fun k A => ?_⟩
  ·unfold Zd;rw [Xd,byteCells_append];rw [Zi] at d ⊢;exact d
  ·simp only [Value.ownBlock,Xv] at A;subst A;rcases n with h|h
   ·exact .inl h
   ·exact .inr (Nat.le_of_eq h.symm)
