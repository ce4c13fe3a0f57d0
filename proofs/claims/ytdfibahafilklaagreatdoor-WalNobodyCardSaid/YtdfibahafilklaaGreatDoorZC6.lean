import Derived.Test.YtdfibahafilklaaGreatDoorZC5
set_option maxRecDepth 100000
set_option maxHeartbeats 8000000
set_option linter.unusedVariables false
set_option linter.unusedSimpArgs false
namespace Go.Proofs.YtdfibahafilklaaGreatDoor.MM
open Go Go.RowKit
structure Codec (α:Type) where
 size:Nat
 on:(Nat→Prop)→World→List Value→α→Prop
 pos:0<size
 len:∀ {S w vs a},on S w vs a→vs.length=size
 keep:∀ {S T w w' vs a},on S w vs a→Kep S w w'→(∀ b,b<w.heap.size→S b→T b)→on T w' vs a
 one:∀ {S w vs a},on S w vs a→∀ u∈vs,u.oneCell'=true
theorem Codec.weak {α:Type} (C:Codec α) {S T:Nat→Prop} {w:World} {vs:List Value} {a:α} (h:C.on S w vs a) (hT:∀ b,b<w.heap.size→S b→T b):C.on T w vs a:=C.keep h (Kep.refl _ _) hT
theorem Codec.all {α:Type} (C:Codec α) {S:Nat→Prop} {w:World} {vs:List Value} {a:α} (h:C.on S w vs a):C.on (fun _=>True) w vs a:=C.weak h fun _ _ _=>trivial
theorem Codec.below {α:Type} (C:Codec α) {w w':World} {vs:List Value} {a:α} (h:C.on (fun _=>True) w vs a) (hb:Below w.heap.size w w'):C.on (fun _=>True) w' vs a:=C.keep h (kep_below _ hb) fun _ _ h=>h
def cOne {α:Type} (f:α→Value) (hf:∀ a,(f a).oneCell'=true):Codec α where
 size:=1
 on:=fun _ _ vs a=>vs=[f a]
 pos:=by decide
 len:=fun h=>by rw [h];rfl
 keep:=fun h _ _=>h
 one:=fun h u hu=>by rw [h] at hu;simp at hu;rw [hu];exact hf _
def cInt:Codec Int:=cOne (fun z=>.int .i64 z) (fun _=>rfl)
def cU8:Codec UInt8:=cOne (fun c=>.int .u8 (c.toNat:Int)) (fun _=>rfl)
def cStr:Codec (List UInt8):=cOne (fun l=>.string ⟨l.toArray⟩) (fun _=>rfl)
def cPair {α β:Type} (C:Codec α) (D:Codec β):Codec (α×β) where
 size:=C.size+D.size
 on:=fun S w vs p=>∃ x y,vs=x++y∧C.on S w x p.1∧D.on S w y p.2
 pos:=by have:=C.pos;omega
 len:=fun ⟨x,y,h,h1,h2⟩=>by rw [h,List.length_append,C.len h1,D.len h2]
 keep:=fun ⟨x,y,h,h1,h2⟩ hk hT=>⟨x,y,h,C.keep h1 hk hT,D.keep h2 hk hT⟩
 one:=fun ⟨x,y,h,h1,h2⟩ u hu=>by
  rw [h,List.mem_append] at hu
  rcases hu with hu | hu
  ·exact C.one h1 u hu
  ·exact D.one h2 u hu
section
variable {α : Type} (C : Codec α)
def Mean (S:Nat→Prop) (w:World) (raw:List (List Value)) (es:List α):Prop:=raw.length=es.length∧∀ i (h:i<raw.length) (h':i<es.length),C.on S w raw[i] es[i]
variable {C}
theorem Mean.keep {S T:Nat→Prop} {w w':World} {raw:List (List Value)} {es:List α} (h:Mean C S w raw es) (hk:Kep S w w') (hT:∀ b,b<w.heap.size→S b→T b):Mean C T w' raw es :=
 ⟨h.1,fun i hi hi'=>C.keep (h.2 i hi hi') hk hT⟩
theorem Mean.nil_ (S:Nat→Prop) (w:World):Mean C S w [] []:=⟨rfl,fun i h=>by simp at h⟩
theorem Mean.append {S:Nat→Prop} {w:World} {xs ys:List (List Value)} {es bs:List α} (h:Mean C S w xs es) (k:Mean C S w ys bs):Mean C S w (xs++ys) (es++bs):=by
 refine ⟨by rw [List.length_append,List.length_append,h.1,k.1],fun i hi hi' => ?_⟩
 by_cases hlt:i<xs.length
 ·rw [List.getElem_append_left hlt,List.getElem_append_left (by rw [← h.1];exact hlt)]
  exact h.2 i hlt (by rw [← h.1];exact hlt)
 ·rw [List.length_append] at hi hi'
  have e:=h.1
  rw [List.getElem_append_right (by omega),List.getElem_append_right (by omega)]
  simp only [← e]
  exact k.2 (i - xs.length) (by omega) (by omega)
theorem Mean.single {S:Nat→Prop} {w:World} {vs:List Value} {a:α} (h:C.on S w vs a):Mean C S w [vs] [a] :=
 ⟨rfl,fun i hi hi'=>by obtain rfl:i=0:=(by simpa using hi);exact h⟩
theorem Mean.take {S:Nat→Prop} {w:World} {raw:List (List Value)} {es:List α} (h:Mean C S w raw es) (k:Nat):Mean C S w (raw.take k) (es.take k):=by
 refine ⟨by rw [List.length_take,List.length_take,h.1],fun i hi hi' => ?_⟩
 rw [List.getElem_take,List.getElem_take]
 exact h.2 i (by rw [List.length_take] at hi;omega) (by rw [List.length_take] at hi';omega)
theorem Mean.drop {S:Nat→Prop} {w:World} {raw:List (List Value)} {es:List α} (h:Mean C S w raw es) (k:Nat):Mean C S w (raw.drop k) (es.drop k):=by
 refine ⟨by rw [List.length_drop,List.length_drop,h.1],fun i hi hi' => ?_⟩
 rw [List.getElem_drop,List.getElem_drop]
 exact h.2 _ (by rw [List.length_drop] at hi;omega) (by rw [List.length_drop] at hi';omega)
theorem Mean.lens {S:Nat→Prop} {w:World} {raw:List (List Value)} {es:List α} (h:Mean C S w raw es):∀ r∈raw,r.length=C.size:=fun r hr=>by
 obtain ⟨i,hi,rfl⟩:=List.getElem_of_mem hr
 exact C.len (h.2 i hi (by rw [← h.1];exact hi))
theorem Mean.ones {S:Nat→Prop} {w:World} {raw:List (List Value)} {es:List α} (h:Mean C S w raw es):∀ u∈raw.flatten,u.oneCell'=true:=fun u hu=>by
 obtain ⟨r,hr,hu⟩:=List.mem_flatten.1 hu
 obtain ⟨i,hi,rfl⟩:=List.getElem_of_mem hr
 exact C.one (h.2 i hi (by rw [← h.1];exact hi)) u hu
theorem flat_len:∀ {raw:List (List Value)} {n:Nat},(∀ r∈raw,r.length=n)→raw.flatten.length=raw.length*n
 | [],n,_=>by simp
 | r::raw,n,h=>by
   rw [List.flatten_cons,List.length_append,flat_len fun x hx=>h x (by simp [hx]),h r (by simp),List.length_cons,Nat.succ_mul]
   omega
theorem flat_get:∀ {raw:List (List Value)} {n:Nat},(∀ r∈raw,r.length=n)→∀ (i:Nat) (hi:i<raw.length) (j:Nat) (u:Value),raw[i][j]? = some u→raw.flatten[i*n+j]? = some u
 | r::raw,n,h,0,_,j,u,hu=>by
   rw [List.getElem_cons_zero] at hu
   have hj:=(List.getElem?_eq_some_iff.1 hu).1
   rw [Nat.zero_mul,Nat.zero_add,List.flatten_cons,List.getElem?_append_left hj]
   exact hu
 | r::raw,n,h,i+1,hi,j,u,hu=>by
   have hr:=h r (by simp)
   have e:(i+1)*n+j=r.length+(i*n+j):=by rw [Nat.succ_mul,hr];omega
   rw [List.flatten_cons,e,List.getElem?_append_right (by omega),Nat.add_sub_cancel_left]
   exact flat_get (fun x hx=>h x (by simp [hx])) i (by simpa using hi) j u (by simpa using hu)
theorem flat_take:∀ {raw:List (List Value)} {n:Nat},(∀ r∈raw,r.length=n)→∀ k,(raw.take k).flatten=raw.flatten.take (k*n)
 | [],n,_,k=>by simp
 | r::raw,n,h,0=>by simp
 | r::raw,n,h,k+1=>by
   have hr:=h r (by simp)
   have e1:r.take (k*n+n)=r:=List.take_of_length_le (by omega)
   have e2:k*n+n - n=k*n:=by omega
   rw [List.take_succ_cons,List.flatten_cons,List.flatten_cons,flat_take (fun x hx=>h x (by simp [hx])) k,Nat.succ_mul,List.take_append,hr,e1,e2]
theorem flat_drop:∀ {raw:List (List Value)} {n:Nat},(∀ r∈raw,r.length=n)→∀ k,(raw.drop k).flatten=raw.flatten.drop (k*n)
 | [],n,_,k=>by simp
 | r::raw,n,h,0=>by simp
 | r::raw,n,h,k+1=>by
   have hr:=h r (by simp)
   have e1:r.drop (k*n+n)=[]:=List.drop_of_length_le (by omega)
   have e2:k*n+n - n=k*n:=by omega
   rw [List.drop_succ_cons,List.flatten_cons,flat_drop (fun x hx=>h x (by simp [hx])) k,Nat.succ_mul,List.drop_append,hr,e1,e2,List.nil_append]
variable (C)
def ROn (S:Nat→Prop) (w:World) (v:Value) (es:List α):Prop :=
 ∃ (p:Option Addr) (cap:Nat) (raw:List (List Value)),v=.slice p es.length cap∧es.length≤cap∧cap≤maxLen∧(p=none→cap=0)∧Mean C S w raw es ∧
   (es=[]∨∃ b off,p=some ⟨b,off,none⟩∧b<w.heap.size∧S b∧∀ j u,raw.flatten[j]? = some u→w.cell? ⟨b,off+j,none⟩=some u)
def RAny (w:World) (v:Value) (es:List α):Prop:=ROn C (fun _=>True) w v es
def RBel (B:Nat) (w:World) (v:Value) (es:List α):Prop:=ROn C (fun b=>b<B) w v es
variable {C}
theorem ROn.keep {S T:Nat→Prop} {w w':World} {v:Value} {es:List α} (h:ROn C S w v es) (hk:Kep S w w') (hT:∀ b,b<w.heap.size→S b→T b):ROn C T w' v es:=by
 obtain ⟨p,cap,raw,hv,h1,h2,h3,hm,h⟩:=h
 refine ⟨p,cap,raw,hv,h1,h2,h3,hm.keep hk hT,?_⟩
 rcases h with h | ⟨b,off,hp,hlt,hS,hc⟩
 ·exact .inl h
 ·exact .inr ⟨b,off,hp,Nat.lt_of_lt_of_le hlt hk.size,hT b hlt hS,fun j u hj=>by rw [hk.cell hlt hS];exact hc j u hj⟩
theorem ROn.weak {S T:Nat→Prop} {w:World} {v:Value} {es:List α} (h:ROn C S w v es) (hT:∀ b,b<w.heap.size→S b→T b):ROn C T w v es:=h.keep (Kep.refl _ _) hT
theorem ROn.any {S:Nat→Prop} {w:World} {v:Value} {es:List α} (h:ROn C S w v es):RAny C w v es:=h.weak fun _ _ _=>trivial
theorem RAny.below {w w':World} {v:Value} {es:List α} (h:RAny C w v es) (hb:Below w.heap.size w w'):RAny C w' v es:=ROn.keep h (kep_below _ hb) fun _ _ h=>h
theorem RAny.bel {w:World} {v:Value} {es:List α} (h:RAny C w v es):RBel C w.heap.size w v es:=ROn.weak h fun _ h _=>h
theorem kep_lt {B:Nat} {w w':World} (hb:Below B w w'):Kep (fun b=>b<B) w w':=⟨hb.os,hb.tape,hb.output,hb.size,fun k _ hk=>hb.block k hk⟩
theorem RBel.below {B:Nat} {w w':World} {v:Value} {es:List α} (h:RBel C B w v es) (hb:Below B w w'):RBel C B w' v es:=ROn.keep h (kep_lt hb) fun _ _ h=>h
theorem RBel.mono {B B':Nat} {w:World} {v:Value} {es:List α} (h:RBel C B w v es) (hB:B≤B'):RBel C B' w v es:=ROn.weak h fun _ _ h=>Nat.lt_of_lt_of_le h hB
theorem ROn.shape {S:Nat→Prop} {w:World} {v:Value} {es:List α} (h:ROn C S w v es):∃ p cap,v=.slice p es.length cap∧es.length≤cap∧cap≤maxLen∧(p=none→cap=0):=by
 obtain ⟨p,cap,raw,hv,h1,h2,h3,_⟩:=h
 exact ⟨p,cap,hv,h1,h2,h3⟩
theorem ROn.oneCell {S:Nat→Prop} {w:World} {v:Value} {es:List α} (h:ROn C S w v es):v.oneCell'=true:=by
 obtain ⟨p,cap,raw,rfl,_⟩:=h;rfl
theorem ROn.nil_ (S:Nat→Prop) (w:World):ROn C S w (.slice none 0 0) []:=⟨none,0,[],rfl,Nat.le_refl _,by unfold maxLen;omega,fun _=>rfl,Mean.nil_ _ _,.inl rfl⟩
theorem ROn.at_ {S:Nat→Prop} {w:World} {p:Option Addr} {n cap:Nat} {es:List α} (h:ROn C S w (.slice p n cap) es) {k:Nat} (hk:k<es.length) :
  ∃ b off vs,p=some ⟨b,off,none⟩∧b<w.heap.size∧S b∧C.on S w vs es[k]∧∀ j u,vs[j]? = some u→w.cell? ⟨b,off+k*C.size+j,none⟩=some u:=by
 obtain ⟨p',cap',raw,hv,_,_,_,hm,h⟩:=h
 simp only [Value.slice.injEq] at hv
 obtain ⟨rfl,_,_⟩:=hv
 rcases h with h | ⟨b,off,hp,hlt,hS,hc⟩
 ·subst h;simp at hk
 ·have hk':k<raw.length:=by rw [hm.1];exact hk
  exact ⟨b,off,raw[k],hp,hlt,hS,hm.2 k hk' hk,fun j u hj=>by rw [Nat.add_assoc];exact hc _ u (flat_get hm.lens k hk' j u hj)⟩
theorem ROn.take {S:Nat→Prop} {w:World} {p:Option Addr} {n cap:Nat} {es:List α} (h:ROn C S w (.slice p n cap) es) (k:Nat) (hk:k≤n):ROn C S w (.slice p k cap) (es.take k):=by
 obtain ⟨p',cap',raw,hv,h1,h2,h3,hm,h⟩:=h
 simp only [Value.slice.injEq] at hv
 obtain ⟨rfl,rfl,rfl⟩:=hv
 have hl:(es.take k).length=k:=by rw [List.length_take];omega
 refine ⟨_,_,raw.take k,by rw [hl],by omega,by omega,h3,hm.take k,?_⟩
 rcases h with h | ⟨b,off,rfl,hlt,hS,hc⟩
 ·subst h;left;simp
 ·refine .inr ⟨b,off,rfl,hlt,hS,fun j u hj=>hc j u ?_⟩
  rw [flat_take hm.lens,List.getElem?_take] at hj
  split at hj
  ·exact hj
  ·cases hj
theorem ROn.drop {S:Nat→Prop} {w:World} {p:Option Addr} {n cap:Nat} {es:List α} (h:ROn C S w (.slice p n cap) es) (k:Nat) (hk:k≤n) :
  ROn C S w (.slice (if cap=k then p else p.map (·.add (k*C.size))) (n - k) (cap - k)) (es.drop k):=by
 obtain ⟨p',cap',raw,hv,h1,h2,h3,hm,h⟩:=h
 simp only [Value.slice.injEq] at hv
 obtain ⟨rfl,rfl,rfl⟩:=hv
 refine ⟨_,_,raw.drop k,by rw [List.length_drop],by rw [List.length_drop];omega,by omega,fun hp => ?_,hm.drop k,?_⟩
 ·by_cases hc:cap=k
  ·omega
  ·rw [if_neg hc] at hp
   have:p=none:=by cases p<;>simp_all
   have:=h3 this
   omega
 by_cases hkn:k=es.length
 ·left;rw [hkn,List.drop_length]
 ·rcases h with h | ⟨b,off,rfl,hlt,hS,hc⟩
  ·subst h;simp at hk;simp at hkn;omega
  ·rw [if_neg (by omega)]
   refine .inr ⟨b,off+k*C.size,?_,hlt,hS,fun j u hj => ?_⟩
   ·simp only [Option.map_some,Option.some.injEq]
    rw [add_at]
   ·rw [flat_drop hm.lens,List.getElem?_drop] at hj
    rw [Nat.add_assoc]
    exact hc _ u hj
end
def cRow {α:Type} (C:Codec α):Codec (List α) where
 size:=1
 on:=fun S w vs es=>∃ v,vs=[v]∧ROn C S w v es
 pos:=by decide
 len:=fun ⟨v,h,_⟩=>by rw [h];rfl
 keep:=fun ⟨v,h,h1⟩ hk hT=>⟨v,h,h1.keep hk hT⟩
 one:=fun ⟨v,h,h1⟩ u hu=>by rw [h] at hu;simp at hu;rw [hu];exact h1.oneCell
theorem ron_row {α:Type} {f:α→Value} {hf:∀ a,(f a).oneCell'=true} {S:Nat→Prop} {B:Nat} {w:World} {v:Value} {es:List α} (h:ROn (cOne f hf) S w v es) (hS:∀ b,b<w.heap.size→S b→b<B):RowIn B w v (es.map f):=by
 obtain ⟨p,cap,raw,hv,h1,h2,h3,hm,h⟩:=h
 refine ⟨p,cap,by rw [List.length_map];exact hv,by rw [List.length_map];exact h1,h2,h3,?_⟩
 rcases h with h | ⟨b,off,hp,hlt,hSb,hc⟩
 ·subst h;exact .inl rfl
 ·refine .inr ⟨b,off,hp,hS b hlt hSb,fun i u hi=>hc i u ?_⟩
  rw [List.getElem?_map] at hi
  obtain ⟨a,ha,rfl⟩:=Option.map_eq_some_iff.1 hi
  obtain ⟨hl,rfl⟩:=List.getElem?_eq_some_iff.1 ha
  have hl':i<raw.length:=by rw [hm.1];exact hl
  have e:=hm.2 i hl' hl
  have:=flat_get hm.lens i hl' 0 (f es[i]) (by rw [show raw[i]=[f es[i]] from e];rfl)
  rw [show (cOne f hf).size=1 from rfl,Nat.mul_one,Nat.add_zero] at this
  exact this
theorem flat_singles {α:Type} (f:α→Value):∀ es:List α,(es.map fun a=>[f a]).flatten=es.map f
 | []=>rfl
 | a::es=>by rw [List.map_cons,List.flatten_cons,flat_singles f es];rfl
theorem row_ron {α:Type} {f:α→Value} {hf:∀ a,(f a).oneCell'=true} {B:Nat} {w:World} {v:Value} {es:List α} (h:RowIn B w v (es.map f)) (hB:B≤w.heap.size):ROn (cOne f hf) (fun b=>b<B) w v es:=by
 obtain ⟨p,cap,hv,h1,h2,h3,h⟩:=h
 rw [List.length_map] at hv h1
 refine ⟨p,cap,es.map fun a=>[f a],hv,h1,h2,h3,⟨by simp,fun i hi hi'=>by simp [cOne]⟩,?_⟩
 rcases h with h | ⟨b,off,hp,hlt,hc⟩
 ·exact .inl (List.map_eq_nil_iff.1 h)
 ·exact .inr ⟨b,off,hp,Nat.lt_of_lt_of_le hlt hB,hlt,fun i u hi=>hc i u (by rw [flat_singles] at hi;exact hi)⟩
def Apt (e:TypeId) (B:Nat) (w:World) (b:Nat):Prop:=b<B∨∀ cur fr,w.heap[b]? ≠ some (.cells cur e fr)
theorem apt_keep {e:TypeId} {B:Nat} {w w':World} {b:Nat} (h:Apt e B w b) (hb:w'.heap[b]? = w.heap[b]?):Apt e B w' b:=by
 rcases h with h | h
 ·exact .inl h
 ·exact .inr fun cur fr=>by rw [hb];exact h cur fr
theorem own_cells {e:TypeId} {B n size:Nat} {w:World} {v:Value} {xs:List Value} (h:w.ownsRow B e size v n xs) {g:Nat} (hg:v.ownBlock=some g):B≤g∧∃ cur fr,w.heap[g]? = some (.cells cur e fr):=by
 rcases h.2 with ⟨rfl,h0⟩ | ⟨g',cap,cur,rfl,hg',hh,_⟩
 ·cases hg
 ·have:g'=g:=Option.some.inj hg
  subst this
  exact ⟨hg',cur,_,hh⟩
theorem apt_not_own {e:TypeId} {B n size:Nat} {w:World} {v:Value} {xs:List Value} (h:w.ownsRow B e size v n xs) {b:Nat} (ha:Apt e B w b):v.ownBlock≠some b:=by
 intro he
 obtain ⟨h1,cur,fr,h2⟩:=own_cells h he
 rcases ha with ha | ha
 ·omega
 ·exact ha cur fr h2
section
variable {α : Type} (C : Codec α)
def OwnC (e:TypeId) (B:Nat) (w:World) (v:Value) (es:List α):Prop:=∃ raw,w.ownsRow B e C.size v es.length raw.flatten∧Mean C (Apt e B w) w raw es
variable {C}
theorem OwnC.keep {e:TypeId} {B:Nat} {w w':World} {v:Value} {es:List α} (h:OwnC C e B w v es) (hb:Below w.heap.size w w'):OwnC C e B w' v es:=by
 obtain ⟨raw,h1,h2⟩:=h
 exact ⟨raw,own_keep (B:=0) h1 hb,h2.keep (kep_below _ hb) fun b hlt hA=>apt_keep hA (hb.block b hlt)⟩
theorem OwnC.alloc {e:TypeId} {B:Nat} {w:World} {v:Value} {es:List α} (h:OwnC C e B w v es) (o:Obj):OwnC C e B (w.alloc o) v es:=h.keep ((Below.refl _ _).alloc (Nat.le_refl _) o)
theorem OwnC.ron {e:TypeId} {B:Nat} {w:World} {v:Value} {es:List α} {S:Nat→Prop} (h:OwnC C e B w v es) (h1:∀ g,v.ownBlock=some g→S g) (h2:∀ b,b<w.heap.size→Apt e B w b→S b):ROn C S w v es:=by
 obtain ⟨raw,ho,hm⟩:=h
 rcases ho.2 with ⟨rfl,h0⟩ | ⟨g,cap,cur,rfl,hg,hh,hnc,hmx,hs,ht⟩
 ·have:es=[]:=List.eq_nil_of_length_eq_zero h0
  subst this
  exact ROn.nil_ _ _
 ·refine ⟨some ⟨g,0,none⟩,cap,raw,rfl,hnc,hmx,(fun h=>by cases h),hm.keep (Kep.refl _ _) h2,.inr ⟨g,0,rfl,(Array.getElem?_eq_some_iff.1 hh).1,h1 g rfl,fun j u hj => ?_⟩⟩
  have:=Lib.cells_of_row hh (es.length*C.size) j u (by rw [ht];exact hj)
  rw [add_at] at this
  exact this
theorem OwnC.any {e:TypeId} {B:Nat} {w:World} {v:Value} {es:List α} (h:OwnC C e B w v es):RAny C w v es:=h.ron (fun _ _=>trivial) (fun _ _ _=>trivial)
theorem OwnC.shape {e:TypeId} {B:Nat} {w:World} {v:Value} {es:List α} (h:OwnC C e B w v es):∃ p cap,v=.slice p es.length cap∧es.length≤cap∧cap≤maxLen∧(p=none→cap=0):=ROn.shape h.any
theorem lit_cells (w:World) (vs:List Value) (e:TypeId):∀ j u,vs[j]? = some u→(w.alloc (.cells vs.toArray e)).cell? ((⟨w.heap.size,0,none⟩:Addr).add j)=some u:=fun j u hj=>by
 rw [add_at,Nat.zero_add,cell_of_row _ _ j _ _ _ (heap_alloc_new w (.cells vs.toArray e))]
 simpa using hj
variable (C)
structure Elem (P:Program) (T e:TypeId) (bytes:Nat):Prop where
 under:P.underlying T=some (.slice e)
 info:∃ i z,P.info? e=some i∧i.zero=some z∧i.size=C.size∧i.bytes=bytes∧z.cells.size=C.size
variable {C}
end
end Go.Proofs.YtdfibahafilklaaGreatDoor.MM
