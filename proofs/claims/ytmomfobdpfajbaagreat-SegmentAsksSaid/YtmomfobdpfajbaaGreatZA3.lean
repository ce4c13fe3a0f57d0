import Derived.Test.YtmomfobdpfajbaaGreatZA2
import Derived.Deep.AppendLies
set_option maxRecDepth 100000
set_option maxHeartbeats 0
set_option linter.unusedVariables false
set_option linter.unusedSimpArgs false
namespace Go.Proofs.YtmomfobdpfajbaaGreat
namespace MM
open RowKit
variable {e:TypeId} {S:Nat->Prop} {B n:Nat} {w w':World} {v:Value}
section
variable {α : Type} {C : Codec α}
theorem ZhS (w:World) (a:List (List Value)) (es:List α) (d:es.length<=maxLen) (f:Zbq C S w a es) :
  ZB C (fun b=>S b\/b=w.heap.size) (w.alloc (.cells a.flatten.toArray e)) (.slice (some ⟨w.heap.size,0,none⟩) es.length es.length) es:=by
 have g:Below w.heap.size w (w.alloc (.cells a.flatten.toArray e)):=(Below.refl _ _).alloc (Xa _) _;refine ⟨_,_,a,rfl,Xa _,d,(fun h=>by cases h),f.keep (Za _ g) fun b _ h=>.inl h,.inr ⟨w.heap.size,0,rfl,by simp,.inr rfl,fun j u c => ?_⟩⟩;have:=ZdF w a.flatten e j u c;rw [ZZ] at this;exact this
theorem ZqA:∀{a:List (List Value)} {n:Nat},(∀r∈a,r.length=n)->∀(k:Nat) (b:k<a.length) (j:Nat) (u:Value),j<n->a.flatten.set (k*n+j) u=(a.set k (a[k].set j u)).flatten
 | r::a,n,h,0,_,j,u,hj=>by
   have c:=h r (by simp);rw [Nat.zero_mul,XL,Xag,List.set_append_left _ _ (by omega)];simp
 | r::a,n,h,k+1,b,j,u,hj=>by
   have c:=h r (by simp);have e:(k+1)*n+j=r.length+(k*n+j):=by rw [Nat.succ_mul,c];omega
   rw [Xag,e,List.set_append_right _ _ (by omega),Nat.add_sub_cancel_left,ZqA (fun x d=>h x (by simp [d])) k (by simpa using b) j u hj];simp
theorem ZbB.elem {g r:Nat} {es:List α} (h:ZbB C e B w (.slice (some ⟨g,0,none⟩) n r) es) {k:Nat} (A:k<es.length) :
  ∃vs,C.on (Apt e B w) w vs es[k]/\(∀j u,vs[j]? = some u->w.cell? ⟨g,k*C.size+j,none⟩=some u)/\(∀j,w.frozen? ⟨g,j,none⟩=false) /\
    ∀j u d,j<C.size->C.on (Apt e B w) w (vs.set j u) d->ZbB C e B (w.setCell ⟨g,k*C.size+j,none⟩ u) (.slice (some ⟨g,0,none⟩) n r) (es.set k d):=by
 obtain ⟨c,p,f⟩:=h
 have F:n=es.length:=by
  rcases p.2 with ⟨s,_⟩|⟨g',cap',D,s,_⟩
  ·cases s
  ·simp only [Value.slice.injEq] at s;exact s.2.1
 subst F;have o:k<c.length:=by rw [f.1];exact A
 refine ⟨c[k],f.2 k o A,fun j u x => ?_,fun j=>World.ownsRow.frozenAt p j,fun j u d x E => ?_⟩
 ·have hf:=flat_get f.lens k o j u x;have a:=(Xak.1 hf).1;rw [World.ownsRow.cellAt p _ (by rw [ZeM f.lens,f.1] at a;exact a)];exact hf
 ·have hs:=(World.ownsRow.stored p (k*C.size+j) u).1;rw [ZqA f.lens k o j u x] at hs;have y:¬Apt e B w g:=fun t=>ZcZ p t rfl;have m:Kep (Apt e B w) w (w.setCell ⟨g,k*C.size+j,none⟩ u):=Zy y u;refine ⟨c.set k (c[k].set j u),by rw [Xav];exact hs,by rw [Xav,Xav,f.1],fun i hi q => ?_⟩;rw [Xav] at hi q;have z:∀b,b<w.heap.size->Apt e B w b->Apt e B (w.setCell ⟨g,k*C.size+j,none⟩ u) b:=fun b a t=>Zi0 t (m.block b a t)
  by_cases l:i=k
  ·subst l;rw [Xbq,Xbq];exact C.keep E m z
  ·rw [Xa2 (fun e=>l e.symm),Xa2 (fun e=>l e.symm)];exact C.keep (f.2 i hi q) m z
variable (C)
def Zbj (e:TypeId) (S:Nat->Prop) (w:World) (v:Value) (es:List α):Prop:=∃a,w.ownsRow 0 e C.size v es.length a.flatten/\Zbq C S w a es/\∀g,v.ownBlock=some g->¬S g
variable {C}
theorem Zbj.nil_ (e:TypeId) (S:Nat->Prop) (w:World):Zbj C e S w (.slice none 0 0) []:=⟨[],World.ownsRow_nil _ _ _ _,Zbq.nil_ _ _,fun g h=>by cases h⟩
theorem ZdY {size:Nat} {d:List Value} (h:w.ownsRow B e size v n d) (i:Kep S w w') (l:∀g,v.ownBlock=some g->S g):w'.ownsRow B e size v n d:=by
 refine ⟨h.1,?_⟩;rcases h.2 with j|⟨g,b,a,c,k,f,rest⟩
 ·exact .inl j
 ·exact .inr ⟨g,b,a,c,k,by rw [i.block g (Xq.1 f).1 (l g (by rw [c];rfl))];exact f,rest⟩
theorem Zbj.keep {T:Nat->Prop} {es:List α} (h:Zbj C e S w v es) (f:Kep T w w') (k:∀b,b<w.heap.size->S b->T b) (o:∀g,v.ownBlock=some g->T g):Zbj C e S w' v es:=by
 obtain ⟨d,m,j,l⟩:=h;exact ⟨d,ZdY m f o,⟨j.1,fun i hi c=>C.keep (C.keep (j.2 i hi c) (Kep.refl _ _) (T:=fun b=>S b/\b<w.heap.size) fun b a hs=>⟨hs,a⟩) (f.mono' (T:=fun b=>S b/\b<w.heap.size) fun b a hs=>k b a hs.1) fun b a hs=>hs.1⟩,l⟩
theorem Zbj.weak {T:Nat->Prop} {es:List α} (h:Zbj C e S w v es) (c:∀b,b<w.heap.size->S b->T b) (i:∀g,v.ownBlock=some g->¬T g):Zbj C e T w v es:=by
 obtain ⟨a,f,d,h3⟩:=h;exact ⟨a,f,d.keep (Kep.refl _ _) c,i⟩
theorem Zbj.ron {T:Nat->Prop} {es:List α} (h:Zbj C e S w v es) (r:∀g,v.ownBlock=some g->T g) (s:∀b,b<w.heap.size->S b->T b):ZB C T w v es:=by
 obtain ⟨d,m,q,_⟩:=h;rcases m.2 with ⟨rfl,p⟩|⟨g,c,l,rfl,hg,i,f,a,hs,k⟩
 ·have:es=[]:=XP p;subst this;exact ZB.nil_ _ _
 ·refine ⟨some ⟨g,0,none⟩,c,d,rfl,f,a,(fun h=>by cases h),q.keep (Kep.refl _ _) s,.inr ⟨g,0,rfl,(Xq.1 i).1,r g rfl,fun j u o => ?_⟩⟩;have:=Lib.cells_of_row i (es.length*C.size) j u (by rw [k];exact o);rw [ZZ] at this;exact this
theorem Zbj.any {es:List α} (h:Zbj C e S w v es):ZF C w v es:=h.ron (fun _ _=>trivial) (fun _ _ _=>trivial)
theorem Zbj.lt {es:List α} (h:Zbj C e S w v es):∀g,v.ownBlock=some g->g<w.heap.size/\¬S g:=fun g a=>by obtain ⟨c,b,_,d⟩:=h;exact ⟨(World.ownsRow.lt b g a).2,d g a⟩
theorem Zd6 {P:Program} {T:TypeId} {f:Nat} (E:Elem C P T e f) {o:Oper} {a:Act} {K:Act->World->Prop} {Q:Exit->Act->World->Prop} (s x:Operand)
  (Y:o.op=.call { callee:=.builtin .append,args:=#[s,x],argTypes:=#[T,T] }) (v:Value) (es:List α) (c:World) (vs:List Value) (d:α) (W:w=c.alloc (.cells vs.toArray e)) (hs:a.eval s=v) (u:Zbj C e S c v es)
  (L:C.on S c vs d) (hx:a.eval x=.slice (some ⟨c.heap.size,0,none⟩) 1 1) (r:es.length+1<=maxLen) (hby:(es.length+1)*f<=140737488355328)
  (h:∀v' w',Zbj C e (fun b=>S b/\b<c.heap.size) w' v' (es++[d])->Kep (fun k=>v.ownBlock≠some k) c w'->(∀g,v'.ownBlock=some g->v.ownBlock=some g\/c.heap.size<=g)->Kep (fun k=>v.ownBlock≠some k) w w'->K (a.put o.dst v') w'):o.wp P a w K Q:=by
 subst W;have M:Below c.heap.size c (c.alloc (.cells vs.toArray e)):=(Below.refl _ _).alloc (Xa _) _;obtain ⟨i,z,hi,X,D,F,O⟩:=E.info;obtain ⟨y,R,h2,V⟩:=u;have Z:∀k,v.ownBlock=some k->k<c.heap.size:=fun k m=>(World.ownsRow.lt R k m).2;have hl:=C.len L;have H:Zbq C (fun b=>S b/\b<c.heap.size) c (y++[vs]) (es++[d]):=(h2.append (Zbq.single L)).keep (Kep.refl _ _) fun b G hs=>⟨hs,G⟩;have I:=World.ownsRow.alloc R (.cells vs.toArray e);refine wp_append_lies _ s x T Y 0 e i z C.size f E.under hi X D F O C.pos v es.length _ hs I ⟨c.heap.size,0,none⟩ 1 1 vs hx (by rw [hl,Nat.one_mul]) (ZdF c vs e) (C.one L) (by omega) r hby (XX _) _ rfl (fun g N w' h4 U j _ => ?_);have m:Kep (fun k=>v.ownBlock≠some k) c w':=(Za _ M).trans (ZO U fun k m p=>p m)
 have l:∀t,(Value.slice (some ⟨g,0,none⟩) (es.length+1) N).ownBlock=some t->v.ownBlock=some t\/c.heap.size<=t:=fun t q=>by
  have:g=t:=XW q;subst this;rcases j with J|J
  ·exact .inl J
  ·right;rw [J];simp
 refine h _ w' ⟨y++[vs],?_,H.keep (m.mono' fun b G hs A=>V b A hs.1) fun b G hs=>hs,?_⟩ m l (ZO U fun k m p=>p m)
 ·rw [Xd,XaN,Xbp];exact h4
 ·intro g q hs;rcases l g q with A|A
  ·exact V g A hs.1
  ·omega
end
end MM
namespace MM
open RowKit
variable {S T:Nat->Prop} {w w':World} {v:Value} {l:Xu} {B n cap:Nat} {p:Option Addr}
def BOn (S:Nat->Prop) (w:World) (v:Value) (l:Xu):Prop:=ZB cU8 S w v l
theorem BOn.keep (h:BOn S w v l) (a:Kep S w w') (c:∀b,b<w.heap.size->S b->T b):BOn T w' v l:=ZB.keep h a c
theorem BOn.weak (h:BOn S w v l) (a:∀b,b<w.heap.size->S b->T b):BOn T w v l:=ZB.weak h a
theorem BOn.below (h:BOn S w v l) (a:Below w.heap.size w w'):BOn S w' v l:=BOn.keep h (Za S a) fun _ _ h=>h
theorem BOn.brow (h:BOn S w v l):Zv w v l:=Zpy (B:=w.heap.size) h fun b a _=>a
theorem BOn.of_in (h:BIn B w v l) (a:B<=w.heap.size):BOn (fun b=>b<B) w v l:=ZpC h a
theorem BOn.of_own (h:Zd B w v l):BOn (fun b=>v.ownBlock=some b) w v l:=by
 have f:ZB cU8 (fun b=>b<w.heap.size) w v l:=ZpC (Row.of_own h) (Xa _);obtain ⟨p,cap,d,rfl,m,o,k,e,j⟩:=f;refine ⟨p,cap,d,rfl,m,o,k,⟨e.1,fun i hi c=>e.2 i hi c⟩,?_⟩;rcases j with h|⟨b,off,rfl,a,_,g⟩
 ·exact .inl h
 ·exact .inr ⟨b,off,rfl,a,rfl,g⟩
theorem BOn.shape (h:BOn S w v l):∃p cap,v=.slice p l.length cap/\l.length<=cap/\cap<=maxLen:=by
 obtain ⟨p,cap,b,a,c,_⟩:=ZB.shape h;exact ⟨p,cap,b,a,c⟩
theorem BOn.nil_ (S:Nat->Prop) (w:World):BOn S w (.slice none 0 0) []:=ZB.nil_ S w
theorem BOn.drewN (h:BOn S w v l) (n:Nat):BOn S (w.drewN n) v l:=h.keep ((Kep.refl S w).drewN n) fun _ _ h=>h
theorem BOn.at_ (h:BOn S w (.slice p n cap) l) {k:Nat} (d:k<l.length) :
  ∃b off,p=some ⟨b,off,none⟩/\b<w.heap.size/\w.cell? ⟨b,off+k,none⟩=some (.int .u8 ((l[k]).toNat:Int)):=by
 obtain ⟨b,off,vs,f,c,_,a,e⟩:=ZB.at_ h d;have a:vs=[.int .u8 ((l[k]).toNat:Int)]:=a;refine ⟨b,off,f,c,?_⟩;have:=e 0 _ (by rw [a];rfl);rw [show cU8.size=1 from rfl,XaB,Xad] at this;exact this
theorem BOn.drop (h:BOn S w (.slice p n cap) l) (k:Nat) (a:k<=n) :
  BOn S w (.slice (if cap=k then p else p.map (·.add k)) (n - k) (cap - k)) (l.drop k):=by
 have:=ZB.drop h k a;rw [show cU8.size=1 from rfl,XaB] at this;exact this
theorem BOn.drop2 {b off:Nat} (h:BOn S w (.slice (some ⟨b,off,none⟩) n cap) l) (k:Nat) (d:k<=n) :
  (cap=k->BOn S w (.slice (some ⟨b,off,none⟩) (n - k) 0) (l.drop k))/\(¬cap=k->BOn S w (.slice (some ⟨b,off+k,none⟩) (n - k) (cap - k)) (l.drop k)):=by
 have a:=h.drop k d;constructor
 ·intro c;rw [Xe c,c,Xaw] at a;exact a
 ·intro c;rw [Xc c,Xae,ZZ] at a;exact a
theorem BOn.take (h:BOn S w (.slice p n cap) l) (k:Nat) (a:k<=n):BOn S w (.slice p k cap) (l.take k):=ZB.take h k a
end MM
namespace MM
open RowKit
def Za3 (w:World) (g:Nat) (t:TypeId) (a b c d:Value):Prop:=w.heap[g]? = some (.cells #[a,b,c,d] t (0,0))
section
variable {w w' : World} {g : Nat} {t : TypeId} {a b c d : Value}
theorem Za3.lt (h:Za3 w g t a b c d):g<w.heap.size:=(Xq.1 h).1
theorem Za3.c0 (h:Za3 w g t a b c d):w.cell? ⟨g,0,none⟩=some a:=by rw [cell_of_row w g 0 _ _ _ h];rfl
theorem Za3.c1 (h:Za3 w g t a b c d):w.cell? ⟨g,1,none⟩=some b:=by rw [cell_of_row w g 1 _ _ _ h];rfl
theorem Za3.c2 (h:Za3 w g t a b c d):w.cell? ⟨g,2,none⟩=some c:=by rw [cell_of_row w g 2 _ _ _ h];rfl
theorem Za3.c3 (h:Za3 w g t a b c d):w.cell? ⟨g,3,none⟩=some d:=by rw [cell_of_row w g 3 _ _ _ h];rfl
theorem Za3.fr (h:Za3 w g t a b c d) (i:Nat):w.frozen? ⟨g,i,none⟩=false:=frozen_of_row w g i _ _ h
theorem Za3.s0 (h:Za3 w g t a b c d) (x:Value):Za3 (w.setCell ⟨g,0,none⟩ x) g t x b c d:=heap_setCell_same w g 0 _ _ x h
theorem Za3.s1 (h:Za3 w g t a b c d) (x:Value):Za3 (w.setCell ⟨g,1,none⟩ x) g t a x c d:=heap_setCell_same w g 1 _ _ x h
theorem Za3.s2 (h:Za3 w g t a b c d) (x:Value):Za3 (w.setCell ⟨g,2,none⟩ x) g t a b x d:=heap_setCell_same w g 2 _ _ x h
theorem Za3.s3 (h:Za3 w g t a b c d) (x:Value):Za3 (w.setCell ⟨g,3,none⟩ x) g t a b c x:=heap_setCell_same w g 3 _ _ x h
def ZC9 (w:World) (g:Nat) (x y z u:Value):World:=(((w.setCell ⟨g,0,none⟩ x).setCell ⟨g,1,none⟩ y).setCell ⟨g,2,none⟩ z).setCell ⟨g,3,none⟩ u
theorem Za3.set (h:Za3 w g t a b c d) (x y z u:Value):Za3 (ZC9 w g x y z u) g t x y z u:=(((h.s0 x).s1 y).s2 z).s3 u
theorem Za3.keep {S:Nat->Prop} (h:Za3 w g t a b c d) (e:Kep S w w') (f:S g):Za3 w' g t a b c d:=(e.block g h.lt f).trans h
theorem Za3.below {B:Nat} (h:Za3 w g t a b c d) (e:Below B w w') (f:g<B):Za3 w' g t a b c d:=(e.block g f).trans h
theorem ZeP (w:World) (t:TypeId) (a b c d:Value):Za3 (w.alloc (.cells #[a,b,c,d] t)) w.heap.size t a b c d:=heap_alloc_new _ _
theorem Za3.cells (h:Za3 w g t a b c d):w.cell? ⟨g,0,none⟩=some a/\w.cell? ⟨g,1,none⟩=some b/\w.cell? ⟨g,2,none⟩=some c/\w.cell? ⟨g,3,none⟩=some d:=⟨h.c0,h.c1,h.c2,h.c3⟩
theorem Za3.all (h:Za3 w g t a b c d) (x y z:Value) :
  w.frozen? ⟨g,0,none⟩=false/\w.frozen? ⟨g,1,none⟩=false/\w.frozen? ⟨g,2,none⟩=false/\w.frozen? ⟨g,3,none⟩=false /\
  ((w.setCell ⟨g,0,none⟩ x).cell? ⟨g,1,none⟩=some b/\(w.setCell ⟨g,0,none⟩ x).frozen? ⟨g,1,none⟩=false) /\
  (((w.setCell ⟨g,0,none⟩ x).setCell ⟨g,1,none⟩ y).cell? ⟨g,2,none⟩=some c/\((w.setCell ⟨g,0,none⟩ x).setCell ⟨g,1,none⟩ y).frozen? ⟨g,2,none⟩=false) /\
  ((((w.setCell ⟨g,0,none⟩ x).setCell ⟨g,1,none⟩ y).setCell ⟨g,2,none⟩ z).cell? ⟨g,3,none⟩=some d/\(((w.setCell ⟨g,0,none⟩ x).setCell ⟨g,1,none⟩ y).setCell ⟨g,2,none⟩ z).frozen? ⟨g,3,none⟩=false) :=
 ⟨h.fr 0,h.fr 1,h.fr 2,h.fr 3,⟨(h.s0 x).c1,(h.s0 x).fr 1⟩,⟨((h.s0 x).s1 y).c2,((h.s0 x).s1 y).fr 2⟩,⟨(((h.s0 x).s1 y).s2 z).c3,(((h.s0 x).s1 y).s2 z).fr 3⟩⟩
theorem ZfQ {g:Nat} (x y z u:Value):Kep (fun b=>b≠g) w (ZC9 w g x y z u) :=
 (((Zy (fun h=>h rfl) x).trans (Zy (fun h=>h rfl) y)).trans (Zy (fun h=>h rfl) z)).trans (Zy (fun h=>h rfl) u)
end
section
variable {P : Program} {fn : Func} {t : TypeId} {ty : TypeDesc}
theorem Zns {p:Tmp} (h:fn.results=#[.cell p t]) (j:P.underlying t=some ty) (f:(match ty with | .struct _ | .array _ _=>true|_=>false)=true) (hi:(P.info? t).map (·.size)=some 4) (tmps:Array Value) (w:World) (g:Nat) (a b c d:Value)
  (i:tmps.getD p undef=.pointer (some ⟨g,0,none⟩)) (l:Za3 w g t a b c d):(results fn tmps).run P w=.ok (.agg #[a,b,c,d]) w:=by
 have e:tmps[p]?.getD undef=.pointer (some ⟨g,0,none⟩):=by simpa using i
 have k:=run_loadVar_row (P:=P) w g t t _ (0,0) ty l j f hi;simp [results,h,e,asAddr,k]
theorem Zb4 {p u:Tmp} (h:fn.results=#[.cell p t,.tmp u]) (j:P.underlying t=some ty) (f:(match ty with | .struct _ | .array _ _=>true|_=>false)=true) (hi:(P.info? t).map (·.size)=some 4) (tmps:Array Value) (w:World) (g:Nat) (a b c d:Value)
  (i:tmps.getD p undef=.pointer (some ⟨g,0,none⟩)) (l:Za3 w g t a b c d):(results fn tmps).run P w=.ok (.tuple #[.agg #[a,b,c,d],tmps.getD u undef]) w:=by
 have e:tmps[p]?.getD undef=.pointer (some ⟨g,0,none⟩):=by simpa using i
 have k:=run_loadVar_row (P:=P) w g t t _ (0,0) ty l j f hi;simp [results,h,e,asAddr,k]
end
