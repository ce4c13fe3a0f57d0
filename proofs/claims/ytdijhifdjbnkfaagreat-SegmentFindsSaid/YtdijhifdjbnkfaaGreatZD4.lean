import Derived.Test.YtdijhifdjbnkfaaGreatZD3
import Derived.Deep.AppendLies
set_option maxRecDepth 100000
set_option maxHeartbeats 8000000
set_option linter.unusedVariables false
set_option linter.unusedSimpArgs false
namespace Go.Proofs.YtdijhifdjbnkfaaGreat.MM
open Go Go.RowKit
structure Codec (α:Type) where
 size:Nat
 on:(Nat→Prop)→World→List Value→α→Prop
 pos:0<size
 len:∀ {S w vs a},on S w vs a→vs.length=size
 keep:∀ {S T w w' vs a},on S w vs a→Kep S w w'→(∀ b,b<w.heap.size→S b→T b)→on T w' vs a
 one:∀ {S w vs a},on S w vs a→∀ u∈vs,u.oneCell'=true
theorem Codec.weak {α:Type} (C:Codec α) {S T:Nat→Prop} {w:World} {vs:List Value} {a:α} (h:C.on S w vs a) (hT:∀ b,b<w.heap.size→S b→T b):C.on T w vs a:=C.keep h (Kep.refl _ _) hT
theorem Codec.all {α:Type} (C:Codec α) {S:Nat→Prop} {w:World} {vs:List Value} {a:α} (h:C.on S w vs a):C.on (fun _=>True) w vs a:=C.weak h fun _ _ _=>trivial
theorem Codec.below {α:Type} (C:Codec α) {w w':World} {vs:List Value} {a:α} (h:C.on (fun _=>True) w vs a) (hb:Below w.heap.size w w'):C.on (fun _=>True) w' vs a:=C.keep h (ZmT _ hb) fun _ _ h=>h
def cOne {α:Type} (f:α→Value) (hf:∀ a,(f a).oneCell'=true):Codec α where
 size:=1
 on:=fun _ _ vs a=>vs=[f a]
 pos:=by decide
 len:=fun h=>by rw [h];rfl
 keep:=fun h _ _=>h
 one:=fun h u hu=>by rw [h] at hu;simp at hu;rw [hu];exact hf _
def cInt:Codec Int:=cOne (fun z=>.int .i64 z) (fun _=>rfl)
def cU8:Codec UInt8:=cOne (fun c=>.int .u8 (c.toNat:Int)) (fun _=>rfl)
def cStr:Codec (List UInt8):=cOne (fun l=>.string ⟨l.toArray⟩) (fun _=>rfl)
def Zek {α β:Type} (C:Codec α) (D:Codec β):Codec (α×β) where
 size:=C.size+D.size
 on:=fun S w vs p=>∃ x y,vs=x++y∧C.on S w x p.1∧D.on S w y p.2
 pos:=by have:=C.pos;omega
 len:=fun ⟨x,y,h,h1,h2⟩=>by rw [h,List.length_append,C.len h1,D.len h2]
 keep:=fun ⟨x,y,h,h1,h2⟩ hk hT=>⟨x,y,h,C.keep h1 hk hT,D.keep h2 hk hT⟩
 one:=fun ⟨x,y,h,h1,h2⟩ u hu=>by
  rw [h,List.mem_append] at hu
  rcases hu with hu | hu
  ·exact C.one h1 u hu
  ·exact D.one h2 u hu
section
variable {α : Type} (C : Codec α)
def Mean (S:Nat→Prop) (w:World) (raw:List (List Value)) (es:List α):Prop:=raw.length=es.length∧∀ i (h:i<raw.length) (h':i<es.length),C.on S w raw[i] es[i]
variable {C}
theorem Mean.keep {S T:Nat→Prop} {w w':World} {raw:List (List Value)} {es:List α} (h:Mean C S w raw es) (hk:Kep S w w') (hT:∀ b,b<w.heap.size→S b→T b):Mean C T w' raw es :=
 ⟨h.1,fun i hi hi'=>C.keep (h.2 i hi hi') hk hT⟩
theorem Mean.nil_ (S:Nat→Prop) (w:World):Mean C S w [] []:=⟨rfl,fun i h=>by simp at h⟩
theorem Mean.append {S:Nat→Prop} {w:World} {xs ys:List (List Value)} {es bs:List α} (h:Mean C S w xs es) (k:Mean C S w ys bs):Mean C S w (xs++ys) (es++bs):=by
 refine ⟨by rw [List.length_append,List.length_append,h.1,k.1],fun i hi hi' => ?_⟩
 by_cases hlt:i<xs.length
 ·rw [List.getElem_append_left hlt,List.getElem_append_left (by rw [← h.1];exact hlt)]
  exact h.2 i hlt (by rw [← h.1];exact hlt)
 ·rw [List.length_append] at hi hi'
  have e:=h.1
  rw [List.getElem_append_right (by omega),List.getElem_append_right (by omega)]
  simp only [← e]
  exact k.2 (i - xs.length) (by omega) (by omega)
theorem Mean.single {S:Nat→Prop} {w:World} {vs:List Value} {a:α} (h:C.on S w vs a):Mean C S w [vs] [a] :=
 ⟨rfl,fun i hi hi'=>by obtain rfl:i=0:=(by simpa using hi);exact h⟩
theorem Mean.take {S:Nat→Prop} {w:World} {raw:List (List Value)} {es:List α} (h:Mean C S w raw es) (k:Nat):Mean C S w (raw.take k) (es.take k):=by
 refine ⟨by rw [List.length_take,List.length_take,h.1],fun i hi hi' => ?_⟩
 rw [List.getElem_take,List.getElem_take]
 exact h.2 i (by rw [List.length_take] at hi;omega) (by rw [List.length_take] at hi';omega)
theorem Mean.drop {S:Nat→Prop} {w:World} {raw:List (List Value)} {es:List α} (h:Mean C S w raw es) (k:Nat):Mean C S w (raw.drop k) (es.drop k):=by
 refine ⟨by rw [List.length_drop,List.length_drop,h.1],fun i hi hi' => ?_⟩
 rw [List.getElem_drop,List.getElem_drop]
 exact h.2 _ (by rw [List.length_drop] at hi;omega) (by rw [List.length_drop] at hi';omega)
theorem Mean.lens {S:Nat→Prop} {w:World} {raw:List (List Value)} {es:List α} (h:Mean C S w raw es):∀ r∈raw,r.length=C.size:=fun r hr=>by
 obtain ⟨i,hi,rfl⟩:=List.getElem_of_mem hr
 exact C.len (h.2 i hi (by rw [← h.1];exact hi))
theorem Mean.ones {S:Nat→Prop} {w:World} {raw:List (List Value)} {es:List α} (h:Mean C S w raw es):∀ u∈raw.flatten,u.oneCell'=true:=fun u hu=>by
 obtain ⟨r,hr,hu⟩:=List.mem_flatten.1 hu
 obtain ⟨i,hi,rfl⟩:=List.getElem_of_mem hr
 exact C.one (h.2 i hi (by rw [← h.1];exact hi)) u hu
theorem Zi0:∀ {raw:List (List Value)} {n:Nat},(∀ r∈raw,r.length=n)→raw.flatten.length=raw.length*n
 | [],n,_=>by simp
 | r::raw,n,h=>by
   rw [List.flatten_cons,List.length_append,Zi0 fun x hx=>h x (by simp [hx]),h r (by simp),List.length_cons,Nat.succ_mul]
   omega
theorem ZiZ:∀ {raw:List (List Value)} {n:Nat},(∀ r∈raw,r.length=n)→∀ (i:Nat) (hi:i<raw.length) (j:Nat) (u:Value),raw[i][j]? = some u→raw.flatten[i*n+j]? = some u
 | r::raw,n,h,0,_,j,u,hu=>by
   rw [List.getElem_cons_zero] at hu
   have hj:=(List.getElem?_eq_some_iff.1 hu).1
   rw [Nat.zero_mul,Nat.zero_add,List.flatten_cons,List.getElem?_append_left hj]
   exact hu
 | r::raw,n,h,i+1,hi,j,u,hu=>by
   have hr:=h r (by simp)
   have e:(i+1)*n+j=r.length+(i*n+j):=by rw [Nat.succ_mul,hr];omega
   rw [List.flatten_cons,e,List.getElem?_append_right (by omega),Nat.add_sub_cancel_left]
   exact ZiZ (fun x hx=>h x (by simp [hx])) i (by simpa using hi) j u (by simpa using hu)
theorem Zi4:∀ {raw:List (List Value)} {n:Nat},(∀ r∈raw,r.length=n)→∀ k,(raw.take k).flatten=raw.flatten.take (k*n)
 | [],n,_,k=>by simp
 | r::raw,n,h,0=>by simp
 | r::raw,n,h,k+1=>by
   have hr:=h r (by simp)
   have e1:r.take (k*n+n)=r:=List.take_of_length_le (by omega)
   have e2:k*n+n - n=k*n:=by omega
   rw [List.take_succ_cons,List.flatten_cons,List.flatten_cons,Zi4 (fun x hx=>h x (by simp [hx])) k,Nat.succ_mul,List.take_append,hr,e1,e2]
theorem ZiY:∀ {raw:List (List Value)} {n:Nat},(∀ r∈raw,r.length=n)→∀ k,(raw.drop k).flatten=raw.flatten.drop (k*n)
 | [],n,_,k=>by simp
 | r::raw,n,h,0=>by simp
 | r::raw,n,h,k+1=>by
   have hr:=h r (by simp)
   have e1:r.drop (k*n+n)=[]:=List.drop_of_length_le (by omega)
   have e2:k*n+n - n=k*n:=by omega
   rw [List.drop_succ_cons,List.flatten_cons,ZiY (fun x hx=>h x (by simp [hx])) k,Nat.succ_mul,List.drop_append,hr,e1,e2,List.nil_append]
variable (C)
def ROn (S:Nat→Prop) (w:World) (v:Value) (es:List α):Prop :=
 ∃ (p:Option Addr) (cap:Nat) (raw:List (List Value)),v=.slice p es.length cap∧es.length≤cap∧cap≤maxLen∧(p=none→cap=0)∧Mean C S w raw es ∧
   (es=[]∨∃ b off,p=some ⟨b,off,none⟩∧b<w.heap.size∧S b∧∀ j u,raw.flatten[j]? = some u→w.cell? ⟨b,off+j,none⟩=some u)
def RAny (w:World) (v:Value) (es:List α):Prop:=ROn C (fun _=>True) w v es
def RBel (B:Nat) (w:World) (v:Value) (es:List α):Prop:=ROn C (fun b=>b<B) w v es
variable {C}
theorem ROn.keep {S T:Nat→Prop} {w w':World} {v:Value} {es:List α} (h:ROn C S w v es) (hk:Kep S w w') (hT:∀ b,b<w.heap.size→S b→T b):ROn C T w' v es:=by
 obtain ⟨p,cap,raw,hv,h1,h2,h3,hm,h⟩:=h
 refine ⟨p,cap,raw,hv,h1,h2,h3,hm.keep hk hT,?_⟩
 rcases h with h | ⟨b,off,hp,hlt,hS,hc⟩
 ·exact .inl h
 ·exact .inr ⟨b,off,hp,Nat.lt_of_lt_of_le hlt hk.size,hT b hlt hS,fun j u hj=>by rw [hk.cell hlt hS];exact hc j u hj⟩
theorem ROn.weak {S T:Nat→Prop} {w:World} {v:Value} {es:List α} (h:ROn C S w v es) (hT:∀ b,b<w.heap.size→S b→T b):ROn C T w v es:=h.keep (Kep.refl _ _) hT
theorem ROn.any {S:Nat→Prop} {w:World} {v:Value} {es:List α} (h:ROn C S w v es):RAny C w v es:=h.weak fun _ _ _=>trivial
theorem RAny.below {w w':World} {v:Value} {es:List α} (h:RAny C w v es) (hb:Below w.heap.size w w'):RAny C w' v es:=ROn.keep h (ZmT _ hb) fun _ _ h=>h
theorem RAny.bel {w:World} {v:Value} {es:List α} (h:RAny C w v es):RBel C w.heap.size w v es:=ROn.weak h fun _ h _=>h
theorem ZmX {B:Nat} {w w':World} (hb:Below B w w'):Kep (fun b=>b<B) w w':=⟨hb.os,hb.tape,hb.output,hb.size,fun k _ hk=>hb.block k hk⟩
theorem RBel.below {B:Nat} {w w':World} {v:Value} {es:List α} (h:RBel C B w v es) (hb:Below B w w'):RBel C B w' v es:=ROn.keep h (ZmX hb) fun _ _ h=>h
theorem RBel.mono {B B':Nat} {w:World} {v:Value} {es:List α} (h:RBel C B w v es) (hB:B≤B'):RBel C B' w v es:=ROn.weak h fun _ _ h=>Nat.lt_of_lt_of_le h hB
theorem ROn.shape {S:Nat→Prop} {w:World} {v:Value} {es:List α} (h:ROn C S w v es):∃ p cap,v=.slice p es.length cap∧es.length≤cap∧cap≤maxLen∧(p=none→cap=0):=by
 obtain ⟨p,cap,raw,hv,h1,h2,h3,_⟩:=h
 exact ⟨p,cap,hv,h1,h2,h3⟩
theorem ROn.oneCell {S:Nat→Prop} {w:World} {v:Value} {es:List α} (h:ROn C S w v es):v.oneCell'=true:=by
 obtain ⟨p,cap,raw,rfl,_⟩:=h;rfl
theorem ROn.nil_ (S:Nat→Prop) (w:World):ROn C S w (.slice none 0 0) []:=⟨none,0,[],rfl,Nat.le_refl _,by unfold maxLen;omega,fun _=>rfl,Mean.nil_ _ _,.inl rfl⟩
theorem ROn.at_ {S:Nat→Prop} {w:World} {p:Option Addr} {n cap:Nat} {es:List α} (h:ROn C S w (.slice p n cap) es) {k:Nat} (hk:k<es.length) :
  ∃ b off vs,p=some ⟨b,off,none⟩∧b<w.heap.size∧S b∧C.on S w vs es[k]∧∀ j u,vs[j]? = some u→w.cell? ⟨b,off+k*C.size+j,none⟩=some u:=by
 obtain ⟨p',cap',raw,hv,_,_,_,hm,h⟩:=h
 simp only [Value.slice.injEq] at hv
 obtain ⟨rfl,_,_⟩:=hv
 rcases h with h | ⟨b,off,hp,hlt,hS,hc⟩
 ·subst h;simp at hk
 ·have hk':k<raw.length:=by rw [hm.1];exact hk
  exact ⟨b,off,raw[k],hp,hlt,hS,hm.2 k hk' hk,fun j u hj=>by rw [Nat.add_assoc];exact hc _ u (ZiZ hm.lens k hk' j u hj)⟩
theorem ROn.take {S:Nat→Prop} {w:World} {p:Option Addr} {n cap:Nat} {es:List α} (h:ROn C S w (.slice p n cap) es) (k:Nat) (hk:k≤n):ROn C S w (.slice p k cap) (es.take k):=by
 obtain ⟨p',cap',raw,hv,h1,h2,h3,hm,h⟩:=h
 simp only [Value.slice.injEq] at hv
 obtain ⟨rfl,rfl,rfl⟩:=hv
 have hl:(es.take k).length=k:=by rw [List.length_take];omega
 refine ⟨_,_,raw.take k,by rw [hl],by omega,by omega,h3,hm.take k,?_⟩
 rcases h with h | ⟨b,off,rfl,hlt,hS,hc⟩
 ·subst h;left;simp
 ·refine .inr ⟨b,off,rfl,hlt,hS,fun j u hj=>hc j u ?_⟩
  rw [Zi4 hm.lens,List.getElem?_take] at hj
  split at hj
  ·exact hj
  ·cases hj
theorem ROn.drop {S:Nat→Prop} {w:World} {p:Option Addr} {n cap:Nat} {es:List α} (h:ROn C S w (.slice p n cap) es) (k:Nat) (hk:k≤n) :
  ROn C S w (.slice (if cap=k then p else p.map (·.add (k*C.size))) (n - k) (cap - k)) (es.drop k):=by
 obtain ⟨p',cap',raw,hv,h1,h2,h3,hm,h⟩:=h
 simp only [Value.slice.injEq] at hv
 obtain ⟨rfl,rfl,rfl⟩:=hv
 refine ⟨_,_,raw.drop k,by rw [List.length_drop],by rw [List.length_drop];omega,by omega,fun hp => ?_,hm.drop k,?_⟩
 ·by_cases hc:cap=k
  ·omega
  ·rw [if_neg hc] at hp
   have:p=none:=by cases p<;>simp_all
   have:=h3 this
   omega
 by_cases hkn:k=es.length
 ·left;rw [hkn,List.drop_length]
 ·rcases h with h | ⟨b,off,rfl,hlt,hS,hc⟩
  ·subst h;simp at hk;simp at hkn;omega
  ·rw [if_neg (by omega)]
   refine .inr ⟨b,off+k*C.size,?_,hlt,hS,fun j u hj => ?_⟩
   ·simp only [Option.map_some,Option.some.injEq]
    rw [Zb5]
   ·rw [ZiY hm.lens,List.getElem?_drop] at hj
    rw [Nat.add_assoc]
    exact hc _ u hj
end
def cRow {α:Type} (C:Codec α):Codec (List α) where
 size:=1
 on:=fun S w vs es=>∃ v,vs=[v]∧ROn C S w v es
 pos:=by decide
 len:=fun ⟨v,h,_⟩=>by rw [h];rfl
 keep:=fun ⟨v,h,h1⟩ hk hT=>⟨v,h,h1.keep hk hT⟩
 one:=fun ⟨v,h,h1⟩ u hu=>by rw [h] at hu;simp at hu;rw [hu];exact h1.oneCell
theorem Zt0 {α:Type} {f:α→Value} {hf:∀ a,(f a).oneCell'=true} {S:Nat→Prop} {B:Nat} {w:World} {v:Value} {es:List α} (h:ROn (cOne f hf) S w v es) (hS:∀ b,b<w.heap.size→S b→b<B):Zbm B w v (es.map f):=by
 obtain ⟨p,cap,raw,hv,h1,h2,h3,hm,h⟩:=h
 refine ⟨p,cap,by rw [List.length_map];exact hv,by rw [List.length_map];exact h1,h2,h3,?_⟩
 rcases h with h | ⟨b,off,hp,hlt,hSb,hc⟩
 ·subst h;exact .inl rfl
 ·refine .inr ⟨b,off,hp,hS b hlt hSb,fun i u hi=>hc i u ?_⟩
  rw [List.getElem?_map] at hi
  obtain ⟨a,ha,rfl⟩:=Option.map_eq_some_iff.1 hi
  obtain ⟨hl,rfl⟩:=List.getElem?_eq_some_iff.1 ha
  have hl':i<raw.length:=by rw [hm.1];exact hl
  have e:=hm.2 i hl' hl
  have:=ZiZ hm.lens i hl' 0 (f es[i]) (by rw [show raw[i]=[f es[i]] from e];rfl)
  rw [show (cOne f hf).size=1 from rfl,Nat.mul_one,Nat.add_zero] at this
  exact this
theorem Zi3 {α:Type} (f:α→Value):∀ es:List α,(es.map fun a=>[f a]).flatten=es.map f
 | []=>rfl
 | a::es=>by rw [List.map_cons,List.flatten_cons,Zi3 f es];rfl
theorem Zuj {α:Type} {f:α→Value} {hf:∀ a,(f a).oneCell'=true} {B:Nat} {w:World} {v:Value} {es:List α} (h:Zbm B w v (es.map f)) (hB:B≤w.heap.size):ROn (cOne f hf) (fun b=>b<B) w v es:=by
 obtain ⟨p,cap,hv,h1,h2,h3,h⟩:=h
 rw [List.length_map] at hv h1
 refine ⟨p,cap,es.map fun a=>[f a],hv,h1,h2,h3,⟨by simp,fun i hi hi'=>by simp [cOne]⟩,?_⟩
 rcases h with h | ⟨b,off,hp,hlt,hc⟩
 ·exact .inl (List.map_eq_nil_iff.1 h)
 ·exact .inr ⟨b,off,hp,Nat.lt_of_lt_of_le hlt hB,hlt,fun i u hi=>hc i u (by rw [Zi3] at hi;exact hi)⟩
def Apt (e:TypeId) (B:Nat) (w:World) (b:Nat):Prop:=b<B∨∀ cur fr,w.heap[b]? ≠ some (.cells cur e fr)
theorem Zcr {e:TypeId} {B:Nat} {w w':World} {b:Nat} (h:Apt e B w b) (hb:w'.heap[b]? = w.heap[b]?):Apt e B w' b:=by
 rcases h with h | h
 ·exact .inl h
 ·exact .inr fun cur fr=>by rw [hb];exact h cur fr
theorem Zp8 {e:TypeId} {B n size:Nat} {w:World} {v:Value} {xs:List Value} (h:w.ownsRow B e size v n xs) {g:Nat} (hg:v.ownBlock=some g):B≤g∧∃ cur fr,w.heap[g]? = some (.cells cur e fr):=by
 rcases h.2 with ⟨rfl,h0⟩ | ⟨g',cap,cur,rfl,hg',hh,_⟩
 ·cases hg
 ·have:g'=g:=Option.some.inj hg
  subst this
  exact ⟨hg',cur,_,hh⟩
theorem Zcs {e:TypeId} {B n size:Nat} {w:World} {v:Value} {xs:List Value} (h:w.ownsRow B e size v n xs) {b:Nat} (ha:Apt e B w b):v.ownBlock≠some b:=by
 intro he
 obtain ⟨h1,cur,fr,h2⟩:=Zp8 h he
 rcases ha with ha | ha
 ·omega
 ·exact ha cur fr h2
section
variable {α : Type} (C : Codec α)
def OwnC (e:TypeId) (B:Nat) (w:World) (v:Value) (es:List α):Prop:=∃ raw,w.ownsRow B e C.size v es.length raw.flatten∧Mean C (Apt e B w) w raw es
variable {C}
theorem OwnC.nil_ (e:TypeId) (B:Nat) (w:World):OwnC C e B w (.slice none 0 0) []:=⟨[],World.ownsRow_nil _ _ _ _,Mean.nil_ _ _⟩
theorem OwnC.keep {e:TypeId} {B:Nat} {w w':World} {v:Value} {es:List α} (h:OwnC C e B w v es) (hb:Below w.heap.size w w'):OwnC C e B w' v es:=by
 obtain ⟨raw,h1,h2⟩:=h
 exact ⟨raw,Zqe (B:=0) h1 hb,h2.keep (ZmT _ hb) fun b hlt hA=>Zcr hA (hb.block b hlt)⟩
theorem OwnC.alloc {e:TypeId} {B:Nat} {w:World} {v:Value} {es:List α} (h:OwnC C e B w v es) (o:Obj):OwnC C e B (w.alloc o) v es:=h.keep ((Below.refl _ _).alloc (Nat.le_refl _) o)
theorem OwnC.ron {e:TypeId} {B:Nat} {w:World} {v:Value} {es:List α} {S:Nat→Prop} (h:OwnC C e B w v es) (h1:∀ g,v.ownBlock=some g→S g) (h2:∀ b,b<w.heap.size→Apt e B w b→S b):ROn C S w v es:=by
 obtain ⟨raw,ho,hm⟩:=h
 rcases ho.2 with ⟨rfl,h0⟩ | ⟨g,cap,cur,rfl,hg,hh,hnc,hmx,hs,ht⟩
 ·have:es=[]:=List.eq_nil_of_length_eq_zero h0
  subst this
  exact ROn.nil_ _ _
 ·refine ⟨some ⟨g,0,none⟩,cap,raw,rfl,hnc,hmx,(fun h=>by cases h),hm.keep (Kep.refl _ _) h2,.inr ⟨g,0,rfl,(Array.getElem?_eq_some_iff.1 hh).1,h1 g rfl,fun j u hj => ?_⟩⟩
  have:=Lib.cells_of_row hh (es.length*C.size) j u (by rw [ht];exact hj)
  rw [Zb5] at this
  exact this
theorem OwnC.any {e:TypeId} {B:Nat} {w:World} {v:Value} {es:List α} (h:OwnC C e B w v es):RAny C w v es:=h.ron (fun _ _=>trivial) (fun _ _ _=>trivial)
theorem OwnC.shape {e:TypeId} {B:Nat} {w:World} {v:Value} {es:List α} (h:OwnC C e B w v es):∃ p cap,v=.slice p es.length cap∧es.length≤cap∧cap≤maxLen∧(p=none→cap=0):=ROn.shape h.any
theorem OwnC.lt {e:TypeId} {B:Nat} {w:World} {v:Value} {es:List α} (h:OwnC C e B w v es):∀ k,v.ownBlock=some k→B≤k∧k<w.heap.size:=fun k hk=>by obtain ⟨raw,h1,_⟩:=h;exact World.ownsRow.lt h1 k hk
theorem Znz (w:World) (vs:List Value) (e:TypeId):∀ j u,vs[j]? = some u→(w.alloc (.cells vs.toArray e)).cell? ((⟨w.heap.size,0,none⟩:Addr).add j)=some u:=fun j u hj=>by
 rw [Zb5,Nat.zero_add,cell_of_row _ _ j _ _ _ (heap_alloc_new w (.cells vs.toArray e))]
 simpa using hj
variable (C)
structure Elem (P:Program) (T e:TypeId) (bytes:Nat):Prop where
 under:P.underlying T=some (.slice e)
 info:∃ i z,P.info? e=some i∧i.zero=some z∧i.size=C.size∧i.bytes=bytes∧z.cells.size=C.size
variable {C}
theorem Zzz {P:Program} {T e:TypeId} {bytes:Nat} (E:Elem C P T e bytes) {w:World} {o:Oper} {a:Act} {K:Act→World→Prop} {Q:Exit→Act→World→Prop} (s x:Operand)
  (ho:o.op=.call { callee:=.builtin .append,args:=#[s,x],argTypes:=#[T,T] }) (B:Nat) (v:Value) (es:List α) (w0:World) (vs:List Value) (d:α) (hw:w=w0.alloc (.cells vs.toArray e)) (hs:a.eval s=v) (hown:OwnC C e B w0 v es)
  (hd:C.on (Apt e B w0) w0 vs d) (hx:a.eval x=.slice (some ⟨w0.heap.size,0,none⟩) 1 1) (hlen:es.length+1≤maxLen) (hby:(es.length+1)*bytes≤140737488355328) (hbase:B≤w0.heap.size)
  (h:∀ v' w',OwnC C e B w' v' (es++[d])→Below B w0 w'→Kep (fun k=>v.ownBlock≠some k) w w'→K (a.put o.dst v') w'):o.wp P a w K Q:=by
 subst hw
 have hb0:Below w0.heap.size w0 (w0.alloc (.cells vs.toArray e)):=(Below.refl _ _).alloc (Nat.le_refl _) _
 obtain ⟨i,z,hi,hz,hsz,hbt,hzs⟩:=E.info
 obtain ⟨raw,h1,h2⟩:=hown.alloc (.cells vs.toArray e)
 have hd2:C.on (Apt e B (w0.alloc (.cells vs.toArray e))) (w0.alloc (.cells vs.toArray e)) vs d:=C.keep hd (ZmT _ hb0) fun b hlt hA=>Zcr hA (hb0.block b hlt)
 have hlo:∀ k,v.ownBlock=some k→B≤k:=fun k hk=>(World.ownsRow.lt h1 k hk).1
 have hl:=C.len hd
 refine wp_append_own _ s x T ho B e i z C.size bytes E.under hi hz hsz hbt hzs C.pos v es.length _ hs h1 ⟨w0.heap.size,0,none⟩ 1 1 vs hx (by rw [hl,Nat.one_mul]) (Znz w0 vs e) (C.one hd) hlen hby (by simp;omega) (fun v' w' h3 hg _ => ?_)
 have hb:Below B (w0.alloc (.cells vs.toArray e)) w':=(Below.refl B _).grown hg (by simp;omega) hlo
 have hk:Kep (Apt e B (w0.alloc (.cells vs.toArray e))) (w0.alloc (.cells vs.toArray e)) w':=ZmW hg fun k hk hA=>Zcs h1 hA hk
 refine h v' w' ⟨raw++[vs],?_,?_⟩ ((hb0.mono hbase).trans hb) (ZmW hg fun k hk hne=>hne hk)
 ·rw [List.length_append,List.flatten_append,List.flatten_singleton]
  exact h3
 ·exact (h2.append (Mean.single hd2)).keep hk fun b hlt hA=>Zcr hA (hk.block b hlt hA)
theorem Zzo {P:Program} {T e:TypeId} {bytes:Nat} (E:Elem C P T e bytes) {w:World} {ops:Array Oper} {rest:List Oper} {o:Oper} {a:Act} {Q:Exit→Act→World→Prop} (hgd:o.guard=none) (s x:Operand)
  (ho:o.op=.call { callee:=.builtin .append,args:=#[s,x],argTypes:=#[T,T] }) (B:Nat) (v:Value) (es:List α) (w0:World) (vs:List Value) (d:α) (hw:w=w0.alloc (.cells vs.toArray e)) (hs:a.eval s=v) (hown:OwnC C e B w0 v es)
  (hd:C.on (Apt e B w0) w0 vs d) (hx:a.eval x=.slice (some ⟨w0.heap.size,0,none⟩) 1 1) (hlen:es.length+1≤maxLen) (hby:(es.length+1)*bytes≤140737488355328) (hbase:B≤w0.heap.size)
  (h:∀ v' w',OwnC C e B w' v' (es++[d])→Below B w0 w'→Kep (fun k=>v.ownBlock≠some k) w w'→wpList P ops Q rest (a.put o.dst v') w'):wpList P ops Q (o::rest) a w :=
 wpList_plain hgd fun _ hK=>Zzz E s x ho B v es w0 vs d hw hs hown hd hx hlen hby hbase fun v' w' h1 h2 h3=>hK _ _ (h v' w' h1 h2 h3)
end
end Go.Proofs.YtdijhifdjbnkfaaGreat.MM
namespace Go.Proofs.YtdijhifdjbnkfaaGreat.MM
open Go Go.RowKit
section
variable {α : Type} {C : Codec α}
theorem ZtY {e:TypeId} {S:Nat→Prop} (w:World) (raw:List (List Value)) (es:List α) (hl:es.length≤maxLen) (hm:Mean C S w raw es) :
  ROn C (fun b=>S b∨b=w.heap.size) (w.alloc (.cells raw.flatten.toArray e)) (.slice (some ⟨w.heap.size,0,none⟩) es.length es.length) es:=by
 have hb:Below w.heap.size w (w.alloc (.cells raw.flatten.toArray e)):=(Below.refl _ _).alloc (Nat.le_refl _) _
 refine ⟨_,_,raw,rfl,Nat.le_refl _,hl,(fun h=>by cases h),hm.keep (ZmT _ hb) fun b _ h=>.inl h,.inr ⟨w.heap.size,0,rfl,by simp,.inr rfl,fun j u hj => ?_⟩⟩
 have:=Znz w raw.flatten e j u hj
 rw [Zb5] at this
 exact this
theorem Zi2:∀ {raw:List (List Value)} {n:Nat},(∀ r∈raw,r.length=n)→∀ (k:Nat) (hk:k<raw.length) (j:Nat) (u:Value),j<n→raw.flatten.set (k*n+j) u=(raw.set k (raw[k].set j u)).flatten
 | r::raw,n,h,0,_,j,u,hj=>by
   have hr:=h r (by simp)
   rw [Nat.zero_mul,Nat.zero_add,List.flatten_cons,List.set_append_left _ _ (by omega)]
   simp
 | r::raw,n,h,k+1,hk,j,u,hj=>by
   have hr:=h r (by simp)
   have e:(k+1)*n+j=r.length+(k*n+j):=by rw [Nat.succ_mul,hr];omega
   rw [List.flatten_cons,e,List.set_append_right _ _ (by omega),Nat.add_sub_cancel_left,Zi2 (fun x hx=>h x (by simp [hx])) k (by simpa using hk) j u hj]
   simp
theorem OwnC.elem {e:TypeId} {B g n cap:Nat} {w:World} {es:List α} (h:OwnC C e B w (.slice (some ⟨g,0,none⟩) n cap) es) {k:Nat} (hk:k<es.length) :
  ∃ vs,C.on (Apt e B w) w vs es[k]∧(∀ j u,vs[j]? = some u→w.cell? ⟨g,k*C.size+j,none⟩=some u)∧(∀ j,w.frozen? ⟨g,j,none⟩=false) ∧
    ∀ j u d,j<C.size→C.on (Apt e B w) w (vs.set j u) d→OwnC C e B (w.setCell ⟨g,k*C.size+j,none⟩ u) (.slice (some ⟨g,0,none⟩) n cap) (es.set k d):=by
 obtain ⟨raw,h1,h2⟩:=h
 have hn:n=es.length:=by
  rcases h1.2 with ⟨hv,_⟩ | ⟨g',cap',cur,hv,_⟩
  ·cases hv
  ·simp only [Value.slice.injEq] at hv
   exact hv.2.1
 subst hn
 have hk':k<raw.length:=by rw [h2.1];exact hk
 refine ⟨raw[k],h2.2 k hk' hk,fun j u hj => ?_,fun j=>World.ownsRow.frozenAt h1 j,fun j u d hj hd => ?_⟩
 ·have hf:=ZiZ h2.lens k hk' j u hj
  have hlt:=(List.getElem?_eq_some_iff.1 hf).1
  rw [World.ownsRow.cellAt h1 _ (by rw [Zi0 h2.lens,h2.1] at hlt;exact hlt)]
  exact hf
 ·have hs:=(World.ownsRow.stored h1 (k*C.size+j) u).1
  rw [Zi2 h2.lens k hk' j u hj] at hs
  have hng:¬ Apt e B w g:=fun ha=>Zcs h1 ha rfl
  have hkp:Kep (Apt e B w) w (w.setCell ⟨g,k*C.size+j,none⟩ u):=ZmZ hng u
  refine ⟨raw.set k (raw[k].set j u),by rw [List.length_set];exact hs,by rw [List.length_set,List.length_set,h2.1],fun i hi hi' => ?_⟩
  rw [List.length_set] at hi hi'
  have hA:∀ b,b<w.heap.size→Apt e B w b→Apt e B (w.setCell ⟨g,k*C.size+j,none⟩ u) b:=fun b hlt ha=>Zcr ha (hkp.block b hlt ha)
  by_cases hik:i=k
  ·subst hik
   rw [List.getElem_set_self,List.getElem_set_self]
   exact C.keep hd hkp hA
  ·rw [List.getElem_set_ne (fun e=>hik e.symm),List.getElem_set_ne (fun e=>hik e.symm)]
   exact C.keep (h2.2 i hi hi') hkp hA
variable (C)
def OwnS (e:TypeId) (S:Nat→Prop) (w:World) (v:Value) (es:List α):Prop:=∃ raw,w.ownsRow 0 e C.size v es.length raw.flatten∧Mean C S w raw es∧∀ g,v.ownBlock=some g→¬ S g
variable {C}
theorem OwnS.nil_ (e:TypeId) (S:Nat→Prop) (w:World):OwnS C e S w (.slice none 0 0) []:=⟨[],World.ownsRow_nil _ _ _ _,Mean.nil_ _ _,fun g h=>by cases h⟩
theorem Zqo {e:TypeId} {size n B:Nat} {S:Nat→Prop} {w w':World} {v:Value} {xs:List Value} (h:w.ownsRow B e size v n xs) (hk:Kep S w w') (hg:∀ g,v.ownBlock=some g→S g):w'.ownsRow B e size v n xs:=by
 refine ⟨h.1,?_⟩
 rcases h.2 with h0 | ⟨g,cap,cur,hv,hb,hh,rest⟩
 ·exact .inl h0
 ·exact .inr ⟨g,cap,cur,hv,hb,by rw [hk.block g (Array.getElem?_eq_some_iff.1 hh).1 (hg g (by rw [hv];rfl))];exact hh,rest⟩
theorem OwnS.keep {e:TypeId} {S T:Nat→Prop} {w w':World} {v:Value} {es:List α} (h:OwnS C e S w v es) (hk:Kep T w w') (hS:∀ b,b<w.heap.size→S b→T b) (hg:∀ g,v.ownBlock=some g→T g):OwnS C e S w' v es:=by
 obtain ⟨raw,h1,h2,h3⟩:=h
 exact ⟨raw,Zqo h1 hk hg,⟨h2.1,fun i hi hi'=>C.keep (C.keep (h2.2 i hi hi') (Kep.refl _ _) (T:=fun b=>S b∧b<w.heap.size) fun b hb hs=>⟨hs,hb⟩) (hk.mono' (T:=fun b=>S b∧b<w.heap.size) fun b hb hs=>hS b hb hs.1) fun b hb hs=>hs.1⟩,h3⟩
theorem OwnS.weak {e:TypeId} {S T:Nat→Prop} {w:World} {v:Value} {es:List α} (h:OwnS C e S w v es) (hT:∀ b,b<w.heap.size→S b→T b) (hg:∀ g,v.ownBlock=some g→¬ T g):OwnS C e T w v es:=by
 obtain ⟨raw,h1,h2,h3⟩:=h
 exact ⟨raw,h1,h2.keep (Kep.refl _ _) hT,hg⟩
theorem OwnS.ron {e:TypeId} {S T:Nat→Prop} {w:World} {v:Value} {es:List α} (h:OwnS C e S w v es) (h1:∀ g,v.ownBlock=some g→T g) (h2:∀ b,b<w.heap.size→S b→T b):ROn C T w v es:=by
 obtain ⟨raw,ho,hm,_⟩:=h
 rcases ho.2 with ⟨rfl,h0⟩ | ⟨g,cap,cur,rfl,hg,hh,hnc,hmx,hs,ht⟩
 ·have:es=[]:=List.eq_nil_of_length_eq_zero h0
  subst this
  exact ROn.nil_ _ _
 ·refine ⟨some ⟨g,0,none⟩,cap,raw,rfl,hnc,hmx,(fun h=>by cases h),hm.keep (Kep.refl _ _) h2,.inr ⟨g,0,rfl,(Array.getElem?_eq_some_iff.1 hh).1,h1 g rfl,fun j u hj => ?_⟩⟩
  have:=Lib.cells_of_row hh (es.length*C.size) j u (by rw [ht];exact hj)
  rw [Zb5] at this
  exact this
theorem OwnS.any {e:TypeId} {S:Nat→Prop} {w:World} {v:Value} {es:List α} (h:OwnS C e S w v es):RAny C w v es:=h.ron (fun _ _=>trivial) (fun _ _ _=>trivial)
theorem OwnS.lt {e:TypeId} {S:Nat→Prop} {w:World} {v:Value} {es:List α} (h:OwnS C e S w v es):∀ g,v.ownBlock=some g→g<w.heap.size∧¬ S g:=fun g hg=>by obtain ⟨raw,h1,_,h3⟩:=h;exact ⟨(World.ownsRow.lt h1 g hg).2,h3 g hg⟩
theorem ZzA {P:Program} {T e:TypeId} {bytes:Nat} (E:Elem C P T e bytes) {S:Nat→Prop} {w:World} {o:Oper} {a:Act} {K:Act→World→Prop} {Q:Exit→Act→World→Prop} (s x:Operand)
  (ho:o.op=.call { callee:=.builtin .append,args:=#[s,x],argTypes:=#[T,T] }) (v:Value) (es:List α) (w0:World) (vs:List Value) (d:α) (hw:w=w0.alloc (.cells vs.toArray e)) (hs:a.eval s=v) (hown:OwnS C e S w0 v es)
  (hd:C.on S w0 vs d) (hx:a.eval x=.slice (some ⟨w0.heap.size,0,none⟩) 1 1) (hlen:es.length+1≤maxLen) (hby:(es.length+1)*bytes≤140737488355328)
  (h:∀ v' w',OwnS C e (fun b=>S b∧b<w0.heap.size) w' v' (es++[d])→Kep (fun k=>v.ownBlock≠some k) w0 w'→(∀ g,v'.ownBlock=some g→v.ownBlock=some g∨w0.heap.size≤g)→Kep (fun k=>v.ownBlock≠some k) w w'→K (a.put o.dst v') w'):o.wp P a w K Q:=by
 subst hw
 have hb0:Below w0.heap.size w0 (w0.alloc (.cells vs.toArray e)):=(Below.refl _ _).alloc (Nat.le_refl _) _
 obtain ⟨i,z,hi,hz,hsz,hbt,hzs⟩:=E.info
 obtain ⟨raw,h1,h2,h3⟩:=hown
 have hlt:∀ k,v.ownBlock=some k→k<w0.heap.size:=fun k hk=>(World.ownsRow.lt h1 k hk).2
 have hl:=C.len hd
 have hm0:Mean C (fun b=>S b∧b<w0.heap.size) w0 (raw++[vs]) (es++[d]):=(h2.append (Mean.single hd)).keep (Kep.refl _ _) fun b hb hs=>⟨hs,hb⟩
 have h1a:=World.ownsRow.alloc h1 (.cells vs.toArray e)
 refine wp_append_lies _ s x T ho 0 e i z C.size bytes E.under hi hz hsz hbt hzs C.pos v es.length _ hs h1a ⟨w0.heap.size,0,none⟩ 1 1 vs hx (by rw [hl,Nat.one_mul]) (Znz w0 vs e) (C.one hd) (by omega) hlen hby (Nat.zero_le _) _ rfl (fun g cap w' h4 hg hwhere _ => ?_)
 have hk:Kep (fun k=>v.ownBlock≠some k) w0 w':=(ZmT _ hb0).trans (ZmW hg fun k hk hne=>hne hk)
 have hnew:∀ g',(Value.slice (some ⟨g,0,none⟩) (es.length+1) cap).ownBlock=some g'→v.ownBlock=some g'∨w0.heap.size≤g':=fun g' hgb=>by
  have:g=g':=Option.some.inj hgb
  subst this
  rcases hwhere with h5 | h5
  ·exact .inl h5
  ·right;rw [h5];simp
 refine h _ w' ⟨raw++[vs],?_,hm0.keep (hk.mono' fun b hb hs he=>h3 b he hs.1) fun b hb hs=>hs,?_⟩ hk hnew (ZmW hg fun k hk hne=>hne hk)
 ·rw [List.length_append,List.flatten_append,List.flatten_singleton]
  exact h4
 ·intro g hgb hs
  rcases hnew g hgb with he | he
  ·exact h3 g he hs.1
  ·omega
end
end Go.Proofs.YtdijhifdjbnkfaaGreat.MM
namespace Go.Proofs.YtdijhifdjbnkfaaGreat.MM
open Go Go.RowKit
def BOn (S:Nat→Prop) (w:World) (v:Value) (l:List UInt8):Prop:=ROn cU8 S w v l
theorem BOn.keep {S T:Nat→Prop} {w w':World} {v:Value} {l:List UInt8} (h:BOn S w v l) (hk:Kep S w w') (hT:∀ b,b<w.heap.size→S b→T b):BOn T w' v l:=ROn.keep h hk hT
theorem BOn.weak {S T:Nat→Prop} {w:World} {v:Value} {l:List UInt8} (h:BOn S w v l) (hT:∀ b,b<w.heap.size→S b→T b):BOn T w v l:=ROn.weak h hT
theorem BOn.below {S:Nat→Prop} {w w':World} {v:Value} {l:List UInt8} (h:BOn S w v l) (hb:Below w.heap.size w w'):BOn S w' v l:=BOn.keep h (ZmT S hb) fun _ _ h=>h
theorem BOn.brow {S:Nat→Prop} {w:World} {v:Value} {l:List UInt8} (h:BOn S w v l):BRow w v l:=Zt0 (B:=w.heap.size) h fun b hb _=>hb
theorem BOn.of_in {B:Nat} {w:World} {v:Value} {l:List UInt8} (h:BIn B w v l) (hB:B≤w.heap.size):BOn (fun b=>b<B) w v l:=Zuj h hB
theorem BOn.of_own {B:Nat} {w:World} {v:Value} {l:List UInt8} (h:OwnB B w v l):BOn (fun b=>v.ownBlock=some b) w v l:=by
 have hr:ROn cU8 (fun b=>b<w.heap.size) w v l:=Zuj (Row.of_own h) (Nat.le_refl _)
 obtain ⟨p,cap,raw,rfl,h1,h2,h3,hm,h4⟩:=hr
 refine ⟨p,cap,raw,rfl,h1,h2,h3,⟨hm.1,fun i hi hi'=>hm.2 i hi hi'⟩,?_⟩
 rcases h4 with h | ⟨b,off,rfl,hlt,_,hc⟩
 ·exact .inl h
 ·exact .inr ⟨b,off,rfl,hlt,rfl,hc⟩
theorem BOn.shape {S:Nat→Prop} {w:World} {v:Value} {l:List UInt8} (h:BOn S w v l):∃ p cap,v=.slice p l.length cap∧l.length≤cap∧cap≤maxLen:=by
 obtain ⟨p,cap,hv,h1,h2,_⟩:=ROn.shape h
 exact ⟨p,cap,hv,h1,h2⟩
theorem BOn.nil_ (S:Nat→Prop) (w:World):BOn S w (.slice none 0 0) []:=ROn.nil_ S w
theorem BOn.drewN {S:Nat→Prop} {w:World} {v:Value} {l:List UInt8} (h:BOn S w v l) (n:Nat):BOn S (w.drewN n) v l:=h.keep ((Kep.refl S w).drewN n) fun _ _ h=>h
theorem BOn.at_ {S:Nat→Prop} {w:World} {p:Option Addr} {n cap:Nat} {l:List UInt8} (h:BOn S w (.slice p n cap) l) {k:Nat} (hk:k<l.length) :
  ∃ b off,p=some ⟨b,off,none⟩∧b<w.heap.size∧w.cell? ⟨b,off+k,none⟩=some (.int .u8 ((l[k]).toNat:Int)):=by
 obtain ⟨b,off,vs,hp,hlt,_,hon,hc⟩:=ROn.at_ h hk
 have hon:vs=[.int .u8 ((l[k]).toNat:Int)]:=hon
 refine ⟨b,off,hp,hlt,?_⟩
 have:=hc 0 _ (by rw [hon];rfl)
 rw [show cU8.size=1 from rfl,Nat.mul_one,Nat.add_zero] at this
 exact this
theorem BOn.drop {S:Nat→Prop} {w:World} {p:Option Addr} {n cap:Nat} {l:List UInt8} (h:BOn S w (.slice p n cap) l) (k:Nat) (hk:k≤n) :
  BOn S w (.slice (if cap=k then p else p.map (·.add k)) (n - k) (cap - k)) (l.drop k):=by
 have:=ROn.drop h k hk
 rw [show cU8.size=1 from rfl,Nat.mul_one] at this
 exact this
theorem BOn.drop2 {S:Nat→Prop} {w:World} {b off n cap:Nat} {l:List UInt8} (h:BOn S w (.slice (some ⟨b,off,none⟩) n cap) l) (k:Nat) (hk:k≤n) :
  (cap=k→BOn S w (.slice (some ⟨b,off,none⟩) (n - k) 0) (l.drop k))∧(¬ cap=k→BOn S w (.slice (some ⟨b,off+k,none⟩) (n - k) (cap - k)) (l.drop k)):=by
 have h1:=h.drop k hk
 constructor
 ·intro hc
  rw [if_pos hc,hc,Nat.sub_self] at h1
  exact h1
 ·intro hc
  rw [if_neg hc,Option.map_some,Zb5] at h1
  exact h1
theorem BOn.drop3 {S:Nat→Prop} {w:World} {p:Option Addr} {n cap:Nat} {l:List UInt8} (h:BOn S w (.slice p n cap) l) (k:Nat) (hk:k≤n) :
  (cap=k→BOn S w (.slice p (n - k) 0) (l.drop k))∧(¬ cap=k→BOn S w (.slice (p.map (fun x=>x.add k)) (n - k) (cap - k)) (l.drop k)):=by
 have h1:=h.drop k hk
 constructor
 ·intro hc
  rw [if_pos hc,hc,Nat.sub_self] at h1
  exact h1
 ·intro hc
  rw [if_neg hc] at h1
  exact h1
theorem BOn.take {S:Nat→Prop} {w:World} {p:Option Addr} {n cap:Nat} {l:List UInt8} (h:BOn S w (.slice p n cap) l) (k:Nat) (hk:k≤n):BOn S w (.slice p k cap) (l.take k):=ROn.take h k hk
end Go.Proofs.YtdijhifdjbnkfaaGreat.MM
namespace Go.Proofs.YtdijhifdjbnkfaaGreat.GB
open Go Go.RowKit MM
def ZaL (w w':World) (v v':Value):Prop:=w.grownBy w' v.ownBlock∧∀ k,v'.ownBlock=some k→v.ownBlock=some k∨w.heap.size≤k
theorem ZkR (w:World) (r:Option Nat):w.grownBy w r:=⟨rfl,rfl,rfl,Nat.le_refl _,fun _ _ _=>rfl⟩
theorem ZaL.refl (w:World) (v:Value):ZaL w w v v:=⟨ZkR _ _,fun k h=>.inl h⟩
theorem ZaL.trans {a b c:World} {u v x:Value} (h:ZaL a b u v) (k:ZaL b c v x):ZaL a c u x:=by
 obtain ⟨h1,h2⟩:=h
 obtain ⟨k1,k2⟩:=k
 refine ⟨⟨k1.os.trans h1.os,k1.tape.trans h1.tape,k1.output.trans h1.output,Nat.le_trans h1.size k1.size,fun i hi hne => ?_⟩,fun i hi => ?_⟩
 ·rw [k1.block i (Nat.lt_of_lt_of_le hi h1.size) (fun e => ?_),h1.block i hi hne]
  rcases h2 i e.symm with h | h
  ·exact hne h.symm
  ·omega
 ·rcases k2 i hi with h | h
  ·exact h2 i h
  ·exact .inr (Nat.le_trans h1.size h)
theorem ZaL.kep {w w':World} {v v':Value} (h:ZaL w w' v v'):Kep (fun b=>v.ownBlock≠some b) w w':=ZmW h.1 fun k hk hne=>hne hk
theorem ZaL.of_below {a b c:World} {u v:Value} (h:Below a.heap.size a b) (k:ZaL b c u v) (hu:∀ i,u.ownBlock=some i→i<a.heap.size):ZaL a c u v :=
 ⟨⟨k.1.os.trans h.os,k.1.tape.trans h.tape,k.1.output.trans h.output,Nat.le_trans h.size k.1.size,fun i hi hne=>by rw [k.1.block i (Nat.lt_of_lt_of_le hi h.size) hne,h.block i hi]⟩,fun i hi=>by
   rcases k.2 i hi with e | e
   ·exact .inl e
   ·exact .inr (Nat.le_trans h.size e)⟩
theorem ZaL.below {a b c:World} {u v:Value} (h:ZaL a b u v) (k:Below b.heap.size b c):ZaL a c u v :=
 ⟨⟨k.os.trans h.1.os,k.tape.trans h.1.tape,k.output.trans h.1.output,Nat.le_trans h.1.size k.size,fun i hi hne=>by rw [k.block i (Nat.lt_of_lt_of_le hi h.1.size),h.1.block i hi hne]⟩,h.2⟩
theorem Zqh {w:World} {v:Value} {l:List UInt8} {B:Nat} (h:OwnB B w v l):∀ i,v.ownBlock=some i→i<w.heap.size:=fun i hi=>(World.ownsRow.lt h i hi).2
theorem OwnB.zero {w:World} {v:Value} {l:List UInt8} {B:Nat} (h:OwnB B w v l):OwnB 0 w v l:=OwnB.weaken h (Nat.zero_le _)
theorem OwnB.from {w:World} {v:Value} {l:List UInt8} {B:Nat} (h:OwnB 0 w v l) (hB:∀ k,v.ownBlock=some k→B≤k):OwnB B w v l:=by
 refine ⟨h.1,?_⟩
 rcases h.2 with h0 | ⟨g,cap,cur,hv,hg,rest⟩
 ·exact .inl h0
 ·exact .inr ⟨g,cap,cur,hv,hB g (by rw [hv];rfl),rest⟩
theorem OwnB.kepOwn {S:Nat→Prop} {w w':World} {v:Value} {l:List UInt8} {B:Nat} (h:OwnB B w v l) (hk:Kep S w w') (hS:∀ k,v.ownBlock=some k→S k):OwnB B w' v l:=by
 refine ⟨h.1,?_⟩
 rcases h.2 with h0 | ⟨g,cap,cur,hv,hg,hh,rest⟩
 ·exact .inl h0
 ·exact .inr ⟨g,cap,cur,hv,hg,by rw [hk.block g (Array.getElem?_eq_some_iff.1 hh).1 (hS g (by rw [hv];rfl))];exact hh,rest⟩
def AppL (l:List UInt8) (v:Value) (w:World) (e:Ending) (w':World):Prop:=∃ v',e=.returned v'∧OwnB 0 w' v' l∧ZaL w w' v v'
theorem Zzp {w:World} {ops:Array Oper} {rest:List Oper} {o:Oper} {a:Act} {Q:Exit→Act→World→Prop} (hgd:o.guard=none) (s x:Operand)
  (ho:o.op=.call { callee:=.builtin .append,args:=#[s,x],argTypes:=#[23,23] }) (v:Value) (l:List UInt8) (hs:a.eval s=v) (hown:OwnB 0 w v l)
  (src:Value) (m:List UInt8) (hx:a.eval x=src) (hr:BRow w src m) (hm:m≠[]) (hlen:l.length+m.length≤140737488355328)
  (h:∀ v' w',OwnB 0 w' v' (l++m)→ZaL w w' v v'→wpList Tryz.prog ops Q rest (a.put o.dst v') w'):wpList Tryz.prog ops Q (o::rest) a w:=by
 obtain ⟨i0,hi,hz0,hz1,hz2⟩:=info_parts ZlZ
 have h0:=List.length_pos_iff.2 hm
 obtain ⟨p,cap,rfl,_,_,h3,hc⟩:=hr
 rcases hc with hc | ⟨b,off,rfl,_,hc⟩
 ·have:=ZdR m;rw [hc] at this;simp at this;omega
 ·refine wpList_append_lies w hgd s x 23 ho 0 5 i0 (.int .u8 0) 1 1 Tryz.underlying23 hi hz0 hz1 hz2 rfl (by decide) v l.length (Lib.byteCells l) hs hown ⟨b,off,none⟩ (Lib.byteCells m).length cap (Lib.byteCells m) hx (by simp)
   (fun j u hu=>by rw [Zb5];exact hc j u hu) (ZdS m) (by rw [ZdR];omega) (by rw [ZdR];unfold maxLen;omega) (by rw [ZdR];omega) (Nat.zero_le _) w.heap.size rfl ?_
  intro g cap' w' hown' hgrow hat _
  refine h _ w' ?_ ⟨hgrow,fun k hk => ?_⟩
  ·unfold OwnB
   rw [List.length_append,ZdO]
   rw [ZdR] at hown' ⊢
   exact hown'
  ·simp only [Value.ownBlock,Option.some.injEq] at hk
   subst hk
   rcases hat with h | h
   ·exact .inl h
   ·exact .inr (Nat.le_of_eq h.symm)
end Go.Proofs.YtdijhifdjbnkfaaGreat.GB
