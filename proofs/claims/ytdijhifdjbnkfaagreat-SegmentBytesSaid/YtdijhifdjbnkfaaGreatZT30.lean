import Derived.Test.YtdijhifdjbnkfaaGreatZT21
import Derived.Test.YtdijhifdjbnkfaaGreatZT29
import Derived.Test.YtdijhifdjbnkfaaGreatZT28
import Derived.Test.YtdijhifdjbnkfaaGreatZT13
set_option maxRecDepth 100000
set_option maxHeartbeats 0
set_option linter.unusedVariables false
set_option linter.unusedSimpArgs false
namespace Go.Proofs.YtdijhifdjbnkfaaGreat
open Lib (hid)
open Tryz
namespace EV
open RowKit MM EM SM
variable {v:Value} {B mb g m:Nat} {w:World} {zs:List Int}
def tcC:Codec ZcZ where
 size:=2
 on:=fun _ _ vs x=>vs=ZgQ x
 pos:=by decide
 len:=fun h=>by rw [h];rfl
 keep:=fun h _ _=>h
 one:=fun {_ _ _ x} h u a=>by
  rw [h] at a;simp only [ZgQ,XS,Xbi,or_false] at a;rcases a with rfl|rfl
  ·rfl
  ·exact x.2.2
theorem ZCV:Elem tcC prog 202 204 40:=⟨underlying202,by
 have h:(prog.info? 204).map (fun i=>(i.zero,i.size,i.bytes))=some (some (.agg #[.string ⟨#[]⟩,.slice none 0 0]),2,40):=by kernel_rfl
 obtain ⟨i,b,c,a,d⟩:=info_parts h;exact ⟨i,_,b,c,a,d,rfl⟩⟩
theorem Zoe {α:Type} [DecidableEq α]:∀{a b:List α},a.Nodup->(∀x∈a,x∈b)->a.length<=b.length
 | [],b,_,_=>XU _
 | x::a,b,h,hs=>by
   obtain ⟨i,f⟩:=List.nodup_cons.1 h;have c:=hs x (by simp);have:=Zoe (a:=a) (b:=b.erase x) f fun y d=>(List.mem_erase_of_ne (fun e:y=x=>i (by rw [<- e];exact d))).2 (hs y (by simp [d]));rw [List.length_erase_of_mem c] at this;have hl:0<b.length:=List.length_pos_of_mem c;rw [Xh];omega
theorem ZdG {α:Type}:∀{T:List (EM.Tr α)} {s:Xu},Zs T s≠[]->s∈T.map (·.1)
 | [],s,h=>absurd rfl h
 | t::r,s,h=>by
   rw [Zs] at h
   by_cases e:t.1=s
   ·simp [e]
   ·rw [Xa e] at h;have:=ZdG h;rw [XF];exact Xa5 _ this
structure Coll (F:Xu->Option Value) (left:Xu->Bool) (d:List ZcZ):Prop where
 val:∀x∈d,F x.1=some x.2.1/\left x.1=false
 nodup:(d.map (·.1)).Nodup
 all:∀s,(F s).isSome=true->left s=true\/s∈d.map (·.1)
theorem Coll.start (F:Xu->Option Value):Coll F (fun n=>(F n).isSome) []:=⟨fun _ h=>(by cases h),List.nodup_nil,fun s h=>.inl h⟩
theorem Coll.next {F:Xu->Option Value} {left:Xu->Bool} {d:List ZcZ} (h:Coll F left d) {n:Xu} (o:v.oneCell'=true) (q:left n=true) (p:F n=some v) :
  Coll F (fun k=>left k && !decide (k=n)) (d++[(n,⟨v,o⟩)]):=by
 refine ⟨fun x c => ?_,?_,fun s hs => ?_⟩
 ·rcases Xak.1 c with c|c
  ·exact ⟨(h.val x c).1,by simp [(h.val x c).2]⟩
  ·obtain rfl:=XaF.1 c;exact ⟨p,by simp⟩
 ·rw [XN,List.nodup_append];refine ⟨h.nodup,by simp,fun a l b j e => ?_⟩;simp only [XF,XV,XaF] at j;subst j;subst e;obtain ⟨x,c,i⟩:=XY.1 l;have:=(h.val x c).2;rw [i,q] at this;cases this
 ·by_cases e:s=n
  ·exact .inr (by simp [e])
  ·rcases h.all s hs with f|f
   ·exact .inl (by simp [f,e])
   ·exact .inr (by rw [XN];exact List.mem_append_left _ f)
theorem Zol (f:Xu->List Int):∀(d:List ZcZ) (s:Xu),Zs (d.map fun x=>((x.1,f x.1):Trm)) s=if s∈d.map (·.1) then f s else []
 | [],s=>by simp [Zs]
 | x::d,s=>by
   rw [XF,Zs,Zol f d s]
   by_cases e:x.1=s
   ·subst e;simp
   ·rw [Xa e]
    have:(s∈(x::d).map (·.1))↔s∈d.map (·.1):=by
     rw [XF,XS];exact ⟨fun h=>h.resolve_left fun b=>e b.symm,.inr⟩
    by_cases a:s∈d.map (·.1)
    ·rw [Xe a,Xe (this.2 a)]
    ·rw [Xa a,Xa fun h=>a (this.1 h)]
theorem ZpY {T:List Trm} {F:Xu->Option Value} (c:Plc B mb T F w) {left:Xu->Bool} {d b:List ZcZ} (h:Coll F left d) (p:∀n,left n=false) (i:b.Perm d) (hs:b.Pairwise fun x y=>Zj y.1 x.1=false) :
  (b.map fun x=>((x.1,Zs T x.1):Trm))=T:=by
 have f:(b.map (·.1)).Nodup:=(i.map (·.1)).nodup_iff.2 h.nodup;refine ZfA ?_ c.rise ?_ c.ne fun s => ?_
 ·unfold Zac;rw [List.pairwise_map]
  have j:b.Pairwise fun x y=>x.1≠y.1:=by
   have:=f;unfold List.Nodup at this
   rwa [List.pairwise_map] at this
  exact (hs.and j).imp fun ⟨a,o⟩=>ZaC a (fun e=>o e.symm)
 ·intro t k;obtain ⟨x,l,rfl⟩:=XY.1 k;exact (c.own x.1 _ (h.val x (i.mem_iff.1 l)).1).2.1
 ·rw [Zol]
  by_cases e:s∈b.map (·.1)
  ·rw [Xe e]
  ·rw [Xa e];refine (c.none s ?_).symm;cases hf:F s with
   | none=>rfl
   | some v =>
     rcases h.all s (by rw [hf];rfl) with a|a
     ·rw [p] at a;cases a
     ·exact absurd ((i.map (·.1)).mem_iff.2 a) e
theorem ZwT {T:List Trm} {F:Xu->Option Value} (a:Plc B mb T F w) {left:Xu->Bool} {d:List ZcZ} (h:Coll F left d):d.length<=T.length:=by
 have:=Zoe (b:=T.map (·.1)) h.nodup fun s hs=>by
  obtain ⟨x,c,rfl⟩:=XY.1 hs;exact ZdG (a.own x.1 _ (h.val x c).1).2.1
 simpa using this
theorem Zr8 {a:List (List Value)} {n:Nat} (p:0<n) (k:∀r∈a,r.length=n) {b off:Nat} (h:∀i (hi:i<a.length) j u,a[i][j]? = some u->w.cell? ⟨b,off+i*n+j,none⟩=some u) :
  ∀j u,a.flatten[j]? = some u->w.cell? ⟨b,off+j,none⟩=some u:=fun j u o=>by
 have d:=(Xal.1 o).1;rw [ZeQ k] at d;have hi:j / n<a.length:=(Nat.div_lt_iff_lt_mul p).2 d;have s:=XaN j p;have f:=Nat.div_add_mod j n;have t:=k a[j / n] (XH hi);obtain ⟨u',c⟩:∃u,a[j / n][j%n]? = some u:=⟨_,XW (l:=a[j / n]) (i:=j%n) (by omega)⟩;have q:=flat_get k (j / n) hi (j%n) u' c;have e:j / n*n+j%n=j:=by rw [Nat.mul_comm];exact f
 rw [e,o] at q;obtain rfl:=XP q;have:=h _ hi _ _ c;rw [Xav,e] at this;exact this
theorem Zyy (h:ZgO w v zs/\zs≠[]/\∀g,v.ownBlock=some g->B<=g):ZD Zbw (fun b=>B<=b) w v zs:=Zbf.ron h.1 (fun g a=>h.2.2 g a) fun _ _ h=>h.elim
theorem ZwU {T:List Trm} {F:Xu->Option Value} (z:Plc B mb T F w) {left:Xu->Bool} {d a:List ZcZ} (h:Coll F left d) (E:∀n,left n=false) (s:a.Perm d) (hs:a.Pairwise fun x y=>Zj y.1 x.1=false)
  {g c:Nat} (t:Zib w g a) (A:g<w.heap.size) (l:d.length<=c) (q:c<=maxLen) (p:B<=g):ZiQ B w (.slice (some ⟨g,0,none⟩) d.length c) T:=by
 have o:=ZpY z h E s hs;have f:T.length=d.length:=by rw [<- o,XE];exact s.length_eq
 refine ⟨some ⟨g,0,none⟩,c,a.map ZgQ,by rw [f],by rw [f];exact l,q,(fun e=>by cases e),⟨by rw [XE,<- o,XE],fun i hi D => ?_⟩,.inr ⟨g,0,rfl,A,p,?_⟩⟩
 ·have b:i<a.length:=by simpa using hi
  have e:T[i]=(a[i].1,Zs T a[i].1):=by
   have:T[i]? = some (a[i].1,Zs T a[i].1):=by
    conv=>lhs;rw [<- o]
    simp [b]
   exact (Xal.1 this).2
  rw [XaA,e,Znb];exact ⟨a[i].2.1,rfl,Zyy (z.own _ _ (h.val a[i] (s.mem_iff.1 (XH b))).1)⟩
 ·refine Zr8 (n:=2) (by omega) (fun r C=>by obtain ⟨x,_,rfl⟩:=XY.1 C;rfl) fun i hi j u k => ?_;have b:i<a.length:=by simpa using hi
  rw [XaA] at k;rw [XL]
  match j,k with
  | 0,k =>
    obtain rfl:=XP k;exact (t i b).1
  | 1,k =>
    obtain rfl:=XP k;exact (t i b).2
theorem Zyw {S:Nat->Prop} {w':World} {d:List ZcZ} (h:ZbI tcC 204 B w v d) (j:Kep S w w') (f:∀g,v.ownBlock=some g->S g):ZbI tcC 204 B w' v d:=by
 obtain ⟨a,e,c⟩:=h;exact ⟨a,Zd0 e j f,c.1,fun i hi b=>c.2 i hi b⟩
theorem Zss (h:w.ownsRow B 204 2 v 0 []):ZbI tcC 204 B w v []:=⟨[],h,Zbs.nil_ _ _⟩
theorem Zvj {d:List ZcZ} (h:ZbI tcC 204 B w v d) (i:d≠[]):∃g a,v=.slice (some ⟨g,0,none⟩) d.length a:=by
 obtain ⟨c,j,h2⟩:=h;rcases j.2 with ⟨_,e⟩|⟨g,a,b,f,_⟩
 ·exact absurd (XO e) i
 ·exact ⟨g,a,f⟩
def ZhC (w:World) (g:Nat):Prop:=∃a fr,w.heap[g]? = some (.cells a 204 fr)
theorem ZmB {c:Nat} {d:List ZcZ} (h:ZbI tcC 204 B w (.slice (some ⟨g,0,none⟩) d.length c) d):Zib w g d/\(∀j,w.frozen? ⟨g,j,none⟩=false)/\g<w.heap.size/\d.length<=c/\c<=maxLen/\B<=g/\ZhC w g:=by
 have e:=ZbI.lt h g rfl
 have l:∀j,w.frozen? ⟨g,j,none⟩=false:=by
  obtain ⟨f,o,_⟩:=h;exact fun j=>World.ownsRow.frozenAt o j
 have k:ZhC w g:=by
  obtain ⟨f,o,_⟩:=h;exact (Zbk o rfl).2
 obtain ⟨p,cap',r,n,q,_⟩:=h.shape;simp only [Value.slice.injEq] at r;obtain ⟨_,_,rfl⟩:=r;refine ⟨fun i hi => ?_,l,e.2,n,q,e.1,k⟩;obtain ⟨vs,b,a,_⟩:=ZbI.elem h hi;have b:vs=ZgQ d[i]:=b;subst b;exact ⟨a 0 _ rfl,a 1 _ rfl⟩
theorem Zm8 (h:ZhC w g) (b:Zbz w g):False:=by
 obtain ⟨c1,f1,c⟩:=h;obtain ⟨c2,f2,a⟩:=b;rw [c] at a;simp only [Xv,Obj.cells.injEq] at a;exact absurd a.2.1 (by decide)
theorem ZoL {F:Xu->Option Value} (h:ZhC w g) (b:Zca w g m F):False:=by
 obtain ⟨c1,f1,d⟩:=h;obtain ⟨es,c,a⟩:=b.obj;rw [d] at a;cases a
theorem ZsZ {cnt:Nat} {F:Xu->Option Value} {left:Xu->Bool} (h:ZhC w g) (a:Zea w mb g m F left cnt):False:=by
 obtain ⟨c1,f1,f⟩:=h;obtain ⟨D,lf,a,_⟩:=a;obtain ⟨es,c,b,d,c0,g1,g2,g3,g4,e,rest⟩:=a;rw [f] at e;cases e
theorem ZgO.shape (h:ZgO w v zs):∃p c,v=.slice p zs.length c:=by
 obtain ⟨p,c,a,_⟩:=(Zbf.any h).shape;exact ⟨p,c,a⟩
open RowKit Go.Shelf MM EM SM
open TK (Z6 Zam ZdX ZbH Zjh Zif KIn Zcd)
open RF (Zz3 Zdn Left ZtL)
variable {S:Nat->Prop} {w w':World} {b mb m D g:Nat} {t:TypeId} {cs:List Value} {ws:List Xu}
attribute [local go_sem] Oper.semAt_some
def Zbn (w:World) (b:Nat) (t:TypeId) (cs:List Value):Prop:=∃fr,w.heap[b]? = some (.cells cs.toArray t fr)
theorem Zbn.new (w:World) (t:TypeId) (cs:List Value):Zbn (w.alloc (.cells cs.toArray t)) w.heap.size t cs:=⟨_,heap_alloc_new w _⟩
theorem Zbn.kep (h:Zbn w b t cs) (a:Kep S w w') (c:S b):Zbn w' b t cs:=by
 obtain ⟨fr,h⟩:=h;exact ⟨fr,(a.block b (Xo.1 h).1 c).trans h⟩
theorem Zbn.below (h:Zbn w b t cs) (a:Below w.heap.size w w'):Zbn w' b t cs:=h.kep (Za (fun _=>True) a) trivial
theorem Zbn.cell (h:Zbn w b t cs) (i:Nat) (u:Value) (hi:cs[i]? = some u):w.cell? ⟨b,i,none⟩=some u:=by
 obtain ⟨fr,h⟩:=h;rw [cell_of_row _ _ i _ _ _ h];simpa using hi
theorem Zbn.not_ints (h:Zbn w b t cs) (c:t≠3):¬Zbz w b:=fun ⟨d,fr,a⟩=>by
 obtain ⟨e,h⟩:=h;rw [h] at a;simp only [Xv,Obj.cells.injEq] at a;exact c a.2.1
theorem Zbn.ne_map {F:Xu->Option Value} (h:Zbn w b t cs) (d:Zca w mb m F):b≠mb:=by
 rintro rfl;obtain ⟨fr,h⟩:=h;obtain ⟨es,c,a⟩:=d.obj;rw [h] at a;cases a
theorem Zbn.own (t:TypeId) (cs:List Value) (b B:Nat):OwnFrom B (fun (_:Unit) W=>Zbn W b t cs):=fun _ W W' row h c f=>by
 obtain ⟨fr,h⟩:=h;refine ⟨fr,(c.block b (Xo.1 h).1 (fun e => ?_)).trans h⟩;obtain ⟨_,o,a,d⟩:=f b e.symm;rw [h] at a;cases a
 cases d
def Inv (B mb a:Nat) (w:World) (pre:List Item) (W:World):Prop:=(∃F,Plc B mb (ZC [] (ZcW pre)) F W)/\Zbn W a 263 [.map (some mb)]/\Below B w W/\(ZcW pre).length<=4096*pre.length
theorem ZA9 {B:Nat} (T:List Trm) (F:Xu->Option Value) (hm:mb<D):OwnFrom D (fun (_:Unit) W=>Plc B mb T F W):=fun _ W W' row h f c =>
 h.keep (S:=fun k=>row≠some k) (ZM f fun k n a=>a n) (fun e=>by have:=(c mb e).1;omega) fun b ⟨j,fr,l⟩ e=>by
  obtain ⟨_,o,d,i⟩:=c b e;rw [l] at d;cases d
  cases i
theorem ZtC (B mb k D:Nat) (w:World) (f:mb<D) (l:B<=w.heap.size) (d:B<=D):OwnFrom D (Inv B mb k w):=fun pre W e row h a c=>by
 obtain ⟨⟨F,i⟩,o,n,j⟩:=h;exact ⟨⟨F,ZA9 _ F f () W e row i a c⟩,Zbn.own _ _ _ D () W e row o a c,ownFrom_below (β:=Unit) (n₀:=B) (B:=D) (w₀:=w) l d () W e row n a c,j⟩
theorem Zcd.own (g B:Nat):OwnFrom B (fun (_:Unit) W=>Zcd W g):=fun _ W W' row h d i=>by
 obtain ⟨a,fr,h⟩:=h;refine ⟨a,fr,(d.block g (Xo.1 h).1 (fun e => ?_)).trans h⟩;obtain ⟨_,o,c,f⟩:=i g e.symm;rw [h] at c;cases c
 cases f
theorem ZtX (D:Nat):OwnFrom D Vow:=fun x W s row h c d=>by
 obtain ⟨⟨g,f,j⟩,v,a⟩:=h;refine ⟨⟨g,f,Zcd.own g D () W s row j c d⟩,?_,a⟩;obtain ⟨p,n,f,y,q,l⟩:=v;refine ⟨p,n,f,y,q,?_⟩;rcases l with l|⟨b,off,u,k,o⟩
 ·exact .inl l
 ·refine .inr ⟨b,off,u,XK k c.size,fun i hi => ?_⟩;exact ⟨cell_kept (o i hi).1 c fun r e=>(d r e).2,cell_kept (o i hi).2 c fun r e=>(d r e).2⟩
def Zkn (w:World) (g:Nat) (ws:List Xu):Prop:=Zcd w g/\Zif w (.slice (some ⟨g,0,none⟩) ws.length ws.length) (ZdX ws)
theorem Zkn.kep (h:Zkn w g ws) (c:Kep S w w') (f:S g):Zkn w' g ws:=by
 obtain ⟨⟨d,fr,n⟩,p,l,a,r,s,k⟩:=h;have j:=(Xo.1 n).1;refine ⟨⟨d,fr,(c.block g j f).trans n⟩,p,l,a,r,s,?_⟩;rcases k with k|⟨b,off,o,e,q⟩
 ·exact .inl k
 ·simp only [Value.slice.injEq] at a;rw [o] at a;simp only [Xv,Addr.mk.injEq] at a;obtain ⟨⟨rfl,rfl,_⟩,_⟩:=a;refine .inr ⟨g,0,o,XK e c.size,fun i hi => ?_⟩;rw [c.cell e f,c.cell e f];exact q i hi
theorem Zkn.at_ (h:Zkn w g ws) {k:Nat} (f:k<ws.length):w.cell? ⟨g,k*2,none⟩=some (.string ⟨ws[k].toArray⟩)/\w.cell? ⟨g,k*2+1,none⟩=some (.int .i64 (k:Int))/\g<w.heap.size:=by
 obtain ⟨b,off,c,e,d,a⟩:=KIn.at_ h.2 (k:=k) (by rw [ZbH];exact f);simp only [Xv,Addr.mk.injEq] at c;obtain ⟨rfl,rfl,_⟩:=c;rw [Zjh,XL] at d a;exact ⟨d,a,e⟩
theorem Zzi (h:Zcd w g) (c:Zbz w g):False:=by
 obtain ⟨c1,f1,d⟩:=h;obtain ⟨c2,f2,a⟩:=c;rw [d] at a;simp only [Xv,Obj.cells.injEq] at a;exact absurd a.2.1 (by decide)
theorem ZBF {F:Xu->Option Value} (h:Zcd w g) (d:Zca w g m F):False:=by
 obtain ⟨c1,f1,e⟩:=h;obtain ⟨es,c,a⟩:=d.obj;rw [e] at a;cases a
theorem Znk (d:Kep S w w') (j:∀k,D<=k->k<w.heap.size->¬S k->∃o,w.heap[k]? = some o/\o.isCells=true):KeepsFrom D w w' :=
 ⟨d.size,fun k o i a l=>by
  have c:=(Xo.1 a).1
  by_cases h:S k
  ·rw [d.block k c h];exact a
  ·obtain ⟨o2,f,e⟩:=j k i c h;rw [a] at f;cases f
   rw [l] at e;cases e⟩
theorem ZvU (z:Int) (v:Value) (fs:List Fld) (w:World) (hr:ZN Z8 w v fs):Calls prog 125 #[.agg #[.int .i64 z,v]] w (ZpB (Z5 (z,fs)) w):=by
 have H:=ZbB w z v;have cw:=Zet z v fs (Za1 w z v) (hr.below H);obtain ⟨p,Z,rfl,dt,c5,_⟩:=hr.shape;unfold maxLen at c5;have aq:=hid cw;have bN:=hid H;clear cw H
 by_cases h0:ZG (z,fs)=0
 ·rw [h0] at aq;have e0:Z5 (z,fs)=Zcs fs:=by unfold Z5;rw [Xa (by simp [h0])]
  rw [e0];obtain ⟨cI,au⟩:=ZaL.1 h0;have cA:∀f∈fs,f.1.length<=4096:=fun f hf=>by have:=Zdd (au f hf).1;omega
  have hx:∀f∈fs,f.2.length<=4096:=fun f hf=>(au f hf).2;have cU:=hid cA;have HX:=hid hx;have HR:=hid hr.bel;clear h0 e0 au cA hx hr;refine (callsIn_wide (n:=5)).1 ?_;refine callsIn_of_wp_marks func125 rfl trivial ?_ rfl;simp only [ntmps125,Xat,Xh,Xm,Nat.reduceAdd,Nat.reduceSub,XaB,XaC,XaD,XaE,Xz,XJ];gi_wp2
  refine ⟨trivial,(callsIn_wide.2 aq.out).mono ?_⟩;rintro e a ⟨rfl,J⟩;have cX:=hid (grow bN.out J);obtain ⟨_,bG,_⟩:=ZcR (J);have bV:=(ZcR J).1;have dv:=@run_makeMap prog;have aD:w.heap.size<a.heap.size:=by have:=J.size;rw [ZbZ] at this;omega
  obtain ⟨W1,aF⟩:=Xn ((a.alloc (.map #[] 0)).alloc (.cells #[.map (some a.heap.size)] 263));have an:Below a.heap.size a W1:=by rw [<- aF];exact ((Below.refl _ _).alloc (Xc _) _).alloc (by simp) _
  have d0:((a.alloc (.map #[] 0)).alloc (.cells #[.map (some a.heap.size)] 263)).cell? ⟨w.heap.size,0,none⟩=some (.int .i64 z):=by rw [aF];exact (an.cell (p:=⟨w.heap.size,0,none⟩) aD).trans bV
  have d1:((a.alloc (.map #[] 0)).alloc (.cells #[.map (some a.heap.size)] 263)).cell? ⟨w.heap.size,1,none⟩=some (.slice p fs.length Z):=by rw [aF];exact (an.cell (p:=⟨w.heap.size,1,none⟩) aD).trans bG
  have dh:=hid aF;clear aF;clear aq J;gi_wp2
  refine ⟨trivial,(ZuC 4 z p fs.length Z _).mono ?_⟩;rintro e w0 ⟨rfl,af⟩;have cl:w.heap.size<=a.heap.size:=Xam aD;have dq:w0.heap.size=a.heap.size+1+1+1:=by rw [af];simp
  have b4:Plc w.heap.size a.heap.size [] (fun _=>none) w0:=by
   rw [af];exact ((Plc.made a w.heap.size cl).below ((Below.refl _ _).alloc (Xc _) _)).below ((Below.refl _ _).alloc (Xc _) _)
  have bZ:Zbn w0 (a.heap.size+1) 263 [.map (some a.heap.size)]:=by
   rw [af];have:=Zbn.new (a.alloc (.map #[] 0)) 263 [.map (some a.heap.size)];rw [show (a.alloc (.map #[] 0)).heap.size=a.heap.size+1 by simp] at this;exact this.below ((Below.refl _ _).alloc (Xc _) _)
  have bl:w0.cell? ⟨a.heap.size+1+1,1,none⟩=some (.slice p fs.length Z):=by
   rw [af];have:=(ZhR ((a.alloc (.map #[] 0)).alloc (.cells #[.map (some a.heap.size)] 263)) (.int .i64 z) (.slice p fs.length Z) 57).2
   rwa [show ((a.alloc (.map #[] 0)).alloc (.cells #[.map (some a.heap.size)] 263)).heap.size=a.heap.size+1+1 by simp] at this
  have M:Below w.heap.size w w0:=by
   rw [af];exact cX.out.trans ((((Below.refl _ _).alloc (Xc _) _).alloc (by simp) _).alloc (by simp;omega) _ |>.mono cl)
  have a8:Inv w.heap.size a.heap.size (a.heap.size+1) w [] w0:=⟨⟨_,b4⟩,bZ,M,by simp [ZcW]⟩;have bg:=HR.out.below M;clear af d0 d1 bV bG an dh b4 bZ;gi_wp2
  refine ZtL rfl (by omega) (gf:=224) (lb:=#[.pointer (some ⟨a.heap.size+1+1,0,none⟩)]) rfl trivial (enters_of func224 (by kernel_rfl) rfl)
   (Zr5 4 (by omega) (a.heap.size+1+1) w.heap.size _ fs cI cU.out HX.out w0 (by omega) (by omega) bl bg) (Below.refl _ _) (by omega) (fun _=>rfl)
   (fun pre W=>Inv w.heap.size a.heap.size (a.heap.size+1) w pre W) (fun _ _=>False) (ZtC _ _ _ _ w (by omega) (Xc _) (by omega)) (fun _ _ _ _ h _ _=>h) (ZtX _) a8
   (fun x a' W=>∃Bx,Zbn W Bx 268 [.string ⟨x.2.1.toArray⟩,x.2.2.1]/\w.heap.size<=Bx/\a'={ tmps:=#[.agg #[.int .i64 z,.slice p fs.length Z],.pointer (some ⟨w.heap.size,0,none⟩),.slice none 0 0,.pointer (some ⟨a.heap.size+1,0,none⟩),.int .i64 x.1,.pointer (some ⟨Bx,0,none⟩),
    undef,undef,undef,undef,undef,undef,.agg #[.int .i64 z,.slice p fs.length Z],.int .i64 0,.bool false,.map (some a.heap.size),.agg #[.int .i64 z,.slice p fs.length Z],.func (.func 224) #[] #[.pointer (some ⟨a.heap.size+1+1,0,none⟩)],
    .int .i64 x.1,.agg #[.string ⟨x.2.1.toArray⟩,x.2.2.1],undef,undef,undef,undef,undef,undef,undef,undef,undef,undef,undef,undef,undef,undef,undef,undef,undef,undef,undef,undef,undef,undef,undef,undef,undef,undef,undef,undef,undef,undef,undef,undef,undef,undef,undef,undef,undef,undef,undef,undef,undef,undef,undef,undef],defers:=[] })
   (fun a' x W r row h hg hr=>by obtain ⟨Bx,h1,h2,h3⟩:=h;exact ⟨Bx,Zbn.own _ _ _ _ () W r row h1 hg hr,h2,h3⟩) ?assign ?body ?done ?stop
  case assign =>
   rintro l pre ⟨u,q,tv,ws⟩ W K hI hV j;obtain ⟨g,ap,_⟩:=hV.1;dsimp only at ap;subst ap;gi_wp2
   have da:Below W.heap.size W (W.alloc (.cells #[.string ⟨q.toArray⟩,.slice (some ⟨g,0,none⟩) ws.length ws.length] 268)):=(Below.refl _ _).alloc (Xc _) _;have bS:=hI.2.2.1.size;refine j _ _ ((KeepsOthers.alloc _ _).from _) (da.mono bS) ?_ ((ZtX w0.heap.size).alloc (s:=(u,q,.slice (some ⟨g,0,none⟩) ws.length ws.length,ws)) _ hV) ⟨W.heap.size,Zbn.new W 268 [.string ⟨q.toArray⟩,.slice (some ⟨g,0,none⟩) ws.length ws.length],bS,rfl⟩;exact (ZtC _ _ _ w0.heap.size w (by omega) (Xc _) (by omega)).alloc (s:=pre) _ hI
  case body =>
   rintro l pre ⟨u,q,tv,ws⟩ a' W dz ab bK ⟨Bx,H,dC,rfl⟩ dj;obtain ⟨⟨g,ap,A⟩,bA,bF,di,al,cr,b3⟩:=bK;dsimp only at H ap A bA bF di al cr b3 ⊢;subst ap;have cb:=H.cell 1 _ rfl;have dm:=H.cell 0 _ rfl;have aA:=hid ab;have b5:Hid (Zkn W g ws):=hid ⟨A,bA⟩;have aU:=hid H;have cR:=hid al;clear ab A bA H a8 bg bl al;gi_wp2
   obtain ⟨T0,bt⟩:=Xn (ZC [] (ZcW pre));have aQ:ZcW (pre++[(u,q,.slice (some ⟨g,0,none⟩) ws.length ws.length,ws)])=ZcW pre++Zae q ws u:=ZkK _ _;have aY:=hid aQ;have cx:=hid bt
   have cu:Hid (∃F,Plc w.heap.size a.heap.size (ZC T0 (Zae q (ws.take 0) u)) F W):=hid (by
    obtain ⟨F,hF⟩:=aA.out.1;rw [<- bt];exact ⟨F,hF⟩)
   have cY:=hid aA.out.2.1;have bv:=hid aA.out.2.2.1;have cq:=hid aA.out.2.2.2;have cF:pre.length<=15:=by omega
   clear bt aQ cb
   gi_loopw [23] (fun iv wr=>∃k:Nat,k<=ws.length/\iv=.int .i64 k/\Hid (∃F,Plc w.heap.size a.heap.size (ZC T0 (Zae q (ws.take k) u)) F wr)/\Hid (Zbn wr (a.heap.size+1) 263 [.map (some a.heap.size)])/\Hid (Zkn wr g ws)/\Hid (Zbn wr Bx 268 [.string ⟨q.toArray⟩,.slice (some ⟨g,0,none⟩) ws.length ws.length])/\Hid (KeepsFrom w0.heap.size W wr)/\Hid (Below w.heap.size W wr)/\W.heap.size<=wr.heap.size) (fun iv _=>ws.length - (intOf iv).toNat)
   case atStart=>exact ⟨0,by omega,rfl,cu,cY,b5,aU,hid (KeepsFrom.refl _ _),hid (Below.refl _ _),Xc _⟩
   case round =>
    obtain ⟨k,hk,rfl,HF,HC,HT,av,bi,HB,a5⟩:=hrel;clear cu b5 aU
    by_cases V:k<ws.length
    ·have q1:decide ((k:Int)<(ws.length:Int))=true:=Xt;have q2:decide (k<ws.length)=true:=Xt;obtain ⟨c1,c2,dy⟩:=HT.out.at_ V;have de:=cR.out ws[k] (XH V);have am:=ZkL q V u;generalize ws[k]=x at *;have aK:=hid am;have bE:=hid V;have b1:=(av.out.kep (Zr (fun _=>True) wr (.cells #[.string ⟨x.toArray⟩,.int .i64 (k:Int)] 134)) trivial).cell 0 _ rfl;have du:(⟨q.toArray⟩:ByteArray).size<=4096:=by rw [Zbh];exact bF
     have dA:(⟨x.toArray⟩:ByteArray).size<=4096:=by rw [Zbh];exact de
     clear am V aA;gi_wp2
     have a0:(⟨q.toArray⟩:ByteArray)++⟨#[58]⟩++⟨x.toArray⟩=⟨(q++58::x).toArray⟩:=by
      rw [show (⟨#[58]⟩:ByteArray)=⟨[58].toArray⟩ from rfl,ZfI,ZfI,Xl];rfl
     rw [a0];have bk:(q++58::x).length<=maxLen:=by rw [Xd,Xh];unfold maxLen;omega
     have am:=aK.out;generalize q++58::x=s at *;obtain ⟨F,hF⟩:=HF.out;obtain ⟨T,hT⟩:=Xn (ZC T0 (Zae q (ws.take k) u));have bB:ZC T0 (Zae q (ws.take (k+1)) u)=Zaj T s (u+(k:Int)):=by rw [am,ZaW,ZuJ,hT]
     rw [hT] at hF;have b0:=hid bB;obtain ⟨wd,ao⟩:=Xn ((wr.alloc (.cells #[.string ⟨x.toArray⟩,.int .i64 (k:Int)] 134)).drew);have aa:Below wr.heap.size wr wd:=by rw [<- ao];exact ((Below.refl _ _).alloc (Xc _) _).drew
     have aL:Zbn wd wr.heap.size 134 [.string ⟨x.toArray⟩,.int .i64 (k:Int)]:=by rw [<- ao];exact (Zbn.new wr 134 [.string ⟨x.toArray⟩,.int .i64 (k:Int)]).kep (Zcl (fun _=>True) _) trivial
     have I:=hF.below aa;have X:=HC.out.below aa;have aJ:=av.out.below aa;have aO:=HT.out.kep (Za (fun _=>True) aa) trivial;have a4:KeepsFrom w0.heap.size W wd:=by rw [<- ao];exact ((bi.out.trans ((KeepsOthers.alloc _ _).from _)).trans ((KeepsOthers.drew _).from _))
     have a7:Below w.heap.size W wd:=HB.out.trans (aa.mono (Xx bv.out.size a5));have dg:W.heap.size<=wd.heap.size:=Xx a5 aa.size;have E:=I.found s;have co:=hid (fun r (h:Plc w.heap.size a.heap.size T F r)=>h.look s bk);have cJ:prog.follows .mixedOrders=true:=by kernel_rfl
     have ce:∀r,Kep (fun b=>b≠a.heap.size/\(found F s).ownBlock≠some b) wd r->r.cell? ⟨a.heap.size+1,0,none⟩=some (.map (some a.heap.size)):=fun r hW=>(X.kep hW ⟨X.ne_map I.map,fun e=>X.not_ints (by decide) (E.2 _ e).2.2.1⟩).cell 0 _ rfl;have bO:∀r,Kep (fun b=>b≠a.heap.size/\(found F s).ownBlock≠some b) wd r->r.cell? ⟨wr.heap.size,1,none⟩=some (.int .i64 (k:Int)):=fun r hW=>(aL.kep hW ⟨aL.ne_map I.map,fun e=>aL.not_ints (by decide) (E.2 _ e).2.2.1⟩).cell 1 _ rfl
     have a2:∀r,Kep (fun b=>b≠a.heap.size/\(found F s).ownBlock≠some b) wd r->Zbn r (a.heap.size+1) 263 [.map (some a.heap.size)]/\Zkn r g ws/\Zbn r Bx 268 [.string ⟨q.toArray⟩,.slice (some ⟨g,0,none⟩) ws.length ws.length]/\KeepsFrom w0.heap.size W r/\Below w.heap.size W r/\W.heap.size<=r.heap.size:=fun r hW=>by
      refine ⟨X.kep hW ⟨X.ne_map I.map,fun e=>X.not_ints (by decide) (E.2 _ e).2.2.1⟩,aO.kep hW ⟨fun e=>ZBF aO.1 (e▸I.map),fun e=>Zzi aO.1 (E.2 _ e).2.2.1⟩,aJ.kep hW ⟨aJ.ne_map I.map,fun e=>aJ.not_ints (by decide) (E.2 _ e).2.2.1⟩,a4.trans (Znk hW fun b hD o hn => ?_),a7.trans (hW.below (by omega) fun b o=>⟨by omega,fun e=>by have:=(E.2 _ e).1;omega⟩),Xx dg hW.size⟩
      by_cases e1:b=a.heap.size
      ·omega
      ·by_cases e2:(found F s).ownBlock=some b
       ·obtain ⟨ai,fr,U⟩:=(E.2 _ e2).2.2.1;exact ⟨_,U,rfl⟩
       ·exact absurd ⟨e1,e2⟩ hn
     have c7:=hid ce;have cS:=hid bO;have a3:=hid a2;have ag:=hid I;have aG:=hid E;have ck:w.heap.size<=wd.heap.size:=by have:=bv.out.size;omega
     have bh:T=ZC [] (ZcW pre++Zae q (ws.take k) u):=by rw [ZaW,cx.out,hT]
     have bx:(ZcW pre++Zae q (ws.take k) u).length<=100000:=by
      rw [Xd,show (Zae q (ws.take k) u).length=(ws.take k).length by simp [Zae],Xi];have:=cq.out;omega
     have ah:(Zs T s).length<=100000:=by rw [bh];exact Xx (Zgu _ _) bx
     have aj:T.length<=100000:=by rw [bh];exact Xx (Zcw _ _) (by simpa using bx)
     have bP:=hid aj;have cn:=hid ah;clear am bB hF aa aL I X aJ aO a4 a7 E ce bO a2 HF HC HT av bi HB aK b1 c1 c2 a0 hT ah bh bx aj;refine RF.ZB6 (T:=fun b=>b≠a.heap.size/\(found F s).ownBlock≠some b) (.take 0<|.take 1<|.take 2<|.take 3<|.take 5<|.take 6<|.take 7<|.take 8<|.both 4 9 (.alone 9<|.alone 10<|.alone 11<|.done) (.alone 4<|.alone 10<|.alone 11<|.done)) cJ (by kernel_rfl) rfl (by kernel_rfl) (fun ⟨_,_,h⟩=>h) (by kernel_rfl) (fun _ _ d _ _ h=>by cases d<;>exact h) ?_;simp only [RT.Zy,XZ,X4,XX];rw [ao];clear ao;repeat (refine RT.take (by rfl) (by intro r hW;have g3:=c7.out r hW;have g7:=cS.out r hW;go_simp;with_reducible rfl) ?_;simp only [Act.put,Xr,Xs,Xq])
     have aP:IntKind.i64.wrap (u+(k:Int))=u+(k:Int):=by rw [IntWalk.i64_left];exact IntWalk.wrap64_in _ ⟨by omega,by omega⟩
     rw [aP];clear aP;refine RT.both ?_ ?_
     ·refine RT.step (by rfl) (fun K j => ?_);have be:=co.out wd ag.out;go_simp;refine j.out _ _ (Kep.refl _ _) ?_;clear j K be;try simp only [Act.put,Xr,Xs,Xq]
      refine RT.alone (RT.step (by rfl) (fun K j => ?_));go_simp;refine j.out _ _ (Zr _ _ _) ?_;clear j K;try simp only [Act.put,Xr,Xs,Xq]
      refine RT.alone (RT.step (by rfl) (fun K j => ?_));have ah:=cn.out;refine Zd8 Zqv (S:=NoS) _ _ rfl (found F s) (Zs T s) wd [.int .i64 (u+(k:Int))] (u+(k:Int)) rfl rfl aG.out.1 rfl rfl (by unfold maxLen;omega) (by omega) ?_;intro v' w3 N C R L;refine j.out _ _ (L.mono fun b o=>o.2) ?_;clear j K;try simp only [Act.put,Xr,Xs,Xq]
      refine RT.alone (RT.step (by rfl) (fun K j => ?_));have aj:=bP.out;refine ZdQ underlying263 _ _ _ rfl a.heap.size T.length F rfl (ag.out.map.kep C fun e=>(aG.out.2 _ e).2.1 rfl) (by unfold maxLen;omega) s v' rfl rfl bk ?_;intro w4 ar G;refine j.out _ _ (G.mono fun b o=>o.1) ?_;clear j K ah aj;have y:=ag.out.put ck C (ZgO.of N) R ar G;rw [<- b0.out] at y;have O:Kep (fun b=>b≠a.heap.size/\(found F s).ownBlock≠some b) wd w4:=(C.mono fun b o=>o.2).trans (G.mono fun b o=>o.1);obtain ⟨n1,n2,n3,n4,n5,n6⟩:=a3.out w4 O;have ae:Hid (∃F,Plc w.heap.size a.heap.size (ZC T0 (Zae q (ws.take (k+1)) u)) F w4):=hid ⟨_,y⟩;have bu:=hid n1;have br:=hid n2;have bm:=hid n3;have bn:=hid n4;have bw:=hid n5;clear y O n1 n2 n3 n4 n5 ar G N C R L;refine RT.done ?_;gi_wp2
      have V:=bE.out;go_roundw
      case rel=>exact ⟨k+1,by omega,by go_num,ae,bu,br,bm,bn,bw,n6⟩
      case measure=>simp [intOf];omega
     ·refine RT.step (by rfl) (fun K j => ?_);go_simp;refine j.out _ _ (Zr _ _ _) ?_;clear j K;try simp only [Act.put,Xr,Xs,Xq]
      refine RT.alone (RT.step (by rfl) (fun K j => ?_));have be:=co.out _ (ag.out.below ((Below.refl _ _).alloc (Xc _) (.cells #[.int .i64 (u+(k:Int))] 3)));go_simp;refine j.out _ _ (Kep.refl _ _) ?_;clear j K be;try simp only [Act.put,Xr,Xs,Xq]
      refine RT.alone (RT.step (by rfl) (fun K j => ?_));have ah:=cn.out;refine Zd8 Zqv (S:=NoS) _ _ rfl (found F s) (Zs T s) wd [.int .i64 (u+(k:Int))] (u+(k:Int)) rfl rfl aG.out.1 rfl rfl (by unfold maxLen;omega) (by omega) ?_;intro v' w3 N C R L;refine j.out _ _ (L.mono fun b o=>o.2) ?_;clear j K;try simp only [Act.put,Xr,Xs,Xq]
      refine RT.alone (RT.step (by rfl) (fun K j => ?_));have aj:=bP.out;refine ZdQ underlying263 _ _ _ rfl a.heap.size T.length F rfl (ag.out.map.kep C fun e=>(aG.out.2 _ e).2.1 rfl) (by unfold maxLen;omega) s v' rfl rfl bk ?_;intro w4 ar G;refine j.out _ _ (G.mono fun b o=>o.1) ?_;clear j K ah aj;have y:=ag.out.put ck C (ZgO.of N) R ar G;rw [<- b0.out] at y;have O:Kep (fun b=>b≠a.heap.size/\(found F s).ownBlock≠some b) wd w4:=(C.mono fun b o=>o.2).trans (G.mono fun b o=>o.1);obtain ⟨n1,n2,n3,n4,n5,n6⟩:=a3.out w4 O;have ae:Hid (∃F,Plc w.heap.size a.heap.size (ZC T0 (Zae q (ws.take (k+1)) u)) F w4):=hid ⟨_,y⟩;have bu:=hid n1;have br:=hid n2;have bm:=hid n3;have bn:=hid n4;have bw:=hid n5;clear y O n1 n2 n3 n4 n5 ar G N C R L;refine RT.done ?_;gi_wp2
      have V:=bE.out;go_roundw
      case rel=>exact ⟨k+1,by omega,by go_num,ae,bu,br,bm,bn,bw,n6⟩
      case measure=>simp [intOf];omega
    ·obtain rfl:k=ws.length:=by omega
     have q1:decide ((ws.length:Int)<(ws.length:Int))=false:=by simp
     have q2:decide (ws.length<ws.length)=false:=by simp
     gi_wp2
     refine ⟨bi.out,HB.out,?_,HC.out,bv.out.trans HB.out,?_⟩
     ·rw [aY.out,ZaW,cx.out];have:=HF.out;rw [XC] at this;exact this
     ·rw [aY.out,Xd,Xd,Xaf,show (Zae q ws u).length=ws.length by simp [Zae]];have:=cq.out;omega
  case stop =>
   rintro D pre W hD _ h _;exact h.elim
  case done =>
   rintro D xs W hD hT ab j;obtain ⟨⟨F,hF⟩,hC,hB,hN⟩:=ab;have ba:ZC [] (ZcW xs)=Zcs fs:=by rw [hT.told,XC];rfl
   rw [ba] at hF
   have ds:(Zcs fs).length<=100000:=by
    rw [<- ba];have h1:=Zcw (ZcW xs) ([]:List Trm);have h2:=hT.len;simp only [Xm,XL] at h1;omega
   generalize Zcs fs=T at *;have HF:=hid hF;have HB:=hid hB;have HK:=hid j;have cC:=hC.cell 0 _ rfl;have dr:=fun ty=>Zca.len underlying263 hF.map ty;clear hF hB j hT ba hN a8 bg bl;simp only [Exit.then]
   apply_assumption
   refine wpIn_wide.2 ?_;obtain ⟨iT,bR,aR,aZ,aV⟩:=info_parts (show (prog.info? 204).map (fun i=>(i.zero,i.size,i.bytes))=some (some (.agg #[.string ⟨#[]⟩,.slice none 0 0]),2,40) by kernel_rfl);have aT:=HB.out.size;have HC:=hid hC;clear hC;go_wp2_with (first|(at_make;refine wpList_make_own W rfl _ _ 202 rfl w.heap.size 204 iT (.agg #[.string ⟨#[]⟩,.slice none 0 0]) 2 underlying202 bR aR aZ .i64 .i64 _ T.length rfl rfl rfl (by rw [aV];omega) (by unfold maxLen;omega) aT ?_;intro w3 N R;have aC:=(Below.refl W.heap.size W).grown R (Xc _) (fun k h=>by cases h);have aH:=hid (HF.out.below aC);have aI:=hid (HB.out.trans (aC.mono aT));have aS:=hid aC;have cW:=(HC.out.below aC).cell 0 _ rfl;have cB:=hid N;clear N R aC)|(at_range;go_loud (refine Zkl underlying263 rfl _ rfl a.heap.size _ _ rfl aH.out.map ?_;intro w4 b7 aX M cV)))
   have aM:w3.heap[D]? = some (.deferred (some [])):=by
    have hl:=(Xo.1 HK.out).1;exact (aS.out.block D hl).trans HK.out
   have cz:w4.heap[D]? = some (.deferred (some [])):=(M.block D (Xo.1 aM).1).trans aM;have dw:D<w3.heap.size:=(Xo.1 aM).1;have ci:=hid (Zss (Zdf (B:=0) cB.out M));have ae:=hid (aH.out.below M);have bL:=hid (aI.out.trans (M.mono aI.out.size));have bC:=hid aX;have bU:=hid cz;have bY:=hid (Coll.start F);have dx:w.heap.size<=w3.heap.size:=aI.out.size;have dl:a.heap.size<w3.heap.size:=aH.out.map.lt;clear aM cz M cV aX cB aH aI aS cW HF HC HB HK aR aZ aV bR
   go_frame
   go_loopw [9] (fun v wr=>∃(d:List ZcZ) (left:Xu->Bool) (cnt g cp:Nat),v=.slice (some ⟨g,0,none⟩) d.length cp/\Hid (ZbI tcC 204 w.heap.size wr (.slice (some ⟨g,0,none⟩) d.length cp) d)/\Hid (Coll F left d)/\Hid (Zea wr a.heap.size w3.heap.size T.length F left cnt)/\Hid (Plc w.heap.size a.heap.size T F wr)/\Hid (Below w.heap.size w wr)/\Hid (wr.heap[D]? = some (.deferred (some [])))) (fun _ wr=>wr.rangeLeft a.heap.size w3.heap.size)
   case atStart=>exact ⟨[],_,b7,_,_,rfl,ci,bY,bC,ae,bL,bU⟩
   case round =>
    obtain ⟨d,left,cnt,g,cp,rfl,HO,bj,aw,HF,HB,HD⟩:=hrel;clear ci bY bC ae bL bU;have dB:=ZwT HF.out bj.out;go_wp2_with (at_next;go_loud (refine Zk7 rfl _ rfl a.heap.size w3.heap.size _ _ left cnt rfl aw.out ?_ ?_))
    ·intro bM;obtain ⟨ac,bI,ad,cy,bJ,cc,A⟩:=ZmB HO.out;have az:=Zzc g cp d wr ac bI ad (by omega);have HS:=hid az;have bd:=hid A;have dc:=hid bM;clear ac bI az A bM;go_wp2_with fail;refine HS.out.mono ?_;rintro e w6 ⟨rfl,d',cD,bT,bX,cg⟩;have cN:=hid cD;have db:=hid bT;have bQ:=hid bX;have aE:=hid cg;clear cD bT bX cg HS;go_wp2_with fail
     have bp:D≠g:=fun e=>by
      obtain ⟨ai,fr,U⟩:=bd.out;have:=HD.out;rw [e,U] at this;cases this
     have cE:w6.heap[D]? = some (.deferred (some [])):=(aE.out.block D (Xo.1 HD.out).1 bp).trans HD.out;have ch:=grownBy_putObj' w6 D (.deferred none);have aN:Kep (fun k=>k≠D) w6 (w6.putObj D (.deferred none)):=ZM ch fun k hk e=>e (XP hk).symm;have cP:=HF.out.keep aE.out (fun e=>ZoL bd.out (e▸HF.out.map)) fun b o e=>Zm8 bd.out (e▸o)
     have cO:=cP.keep aN (by omega) fun b o e=>by
      obtain ⟨ai,fr,U⟩:=o;rw [e,cE] at U;cases U
     have bb:g<w6.heap.size:=XK ad aE.out.size;have cM:Zib (w6.putObj D (.deferred none)) g d':=fun i hi=>⟨(aN.cell bb (fun e=>bp e.symm) _).trans (bQ.out i hi).1,(aN.cell bb (fun e=>bp e.symm) _).trans (bQ.out i hi).2⟩;have ca:=ZwU cO bj.out dc.out cN.out db.out cM (XK bb aN.size) cy bJ cc
     have cL:Below w.heap.size w (w6.putObj D (.deferred none)):=(HB.out.trans (aE.out.below HB.out.size fun k hk e=>by omega)).grown ch (Xx HB.out.size aE.out.size) fun k hk=>by
      have:=XP hk;omega
     refine ⟨by simp,.inl ⟨_,_,rfl,run_takeDeferred cE,?_⟩⟩;refine ⟨.slice (some ⟨g,0,none⟩) d.length cp,?_,_,rfl,ca,cL⟩;simp [results,Tryz.f125,go_sem]
    ·intro n v w5 cd hn hl a9 aB aW ak b9 dp;obtain ⟨hz,bW,_⟩:=HF.out.own n v a9;obtain ⟨pv,cv,rfl⟩:=hz.shape;have ay:(Value.slice pv (Zs T n).length cv).oneCell'=true:=rfl;have aK:=hid (bj.out.next ay hl a9);have cm:∀x,(Value.slice (some ⟨g,0,none⟩) d.length cp).ownBlock=some x->x=g:=fun x hx=>(XP hx).symm;obtain ⟨_,_,ad,_,_,cc,A⟩:=ZmB HO.out;have bq:g≠w3.heap.size:=fun e=>ZsZ A (e▸aw.out)
     have a1:ZhC w5 g:=by
      obtain ⟨ai,fr,U⟩:=A;exact ⟨ai,fr,(ak.block g ad bq).trans U⟩
     have ax:=hid a1;have bz:=aw.out.lt;have cK:=hid (Zyw HO.out ak fun x hx=>by rw [cm x hx];exact bq)
     have ct:=HF.out.keep ak (by omega) fun b o e=>by
      obtain ⟨ai,fr,U⟩:=o;subst e;obtain ⟨Dd,lf,hr,_⟩:=aw.out;obtain ⟨es,c9,c4,dk,c0,g1,g2,g3,g4,g5,rest⟩:=hr;rw [U] at g5;cases g5
     have bD:=hid ct;have b2:=hid (HB.out.trans (ak.below HB.out.size fun k hk e=>by omega));have bo:=hid ((ak.block D (Xo.1 HD.out).1 (by omega)).trans HD.out);have b6:=hid aB;have dn:=hid aB.left_eq;have c8:=hid aw.out.left_eq;have cZ:=hid aW;have cQ:=b2.out.size;clear aB aW a9 ak hz bW A a1 bz ct hl b9;go_wp2_with (at_builtin;go_loud (refine ZgN ZCV rfl _ _ rfl w.heap.size _ d w5 (ZgQ (n,⟨.slice pv (Zs T n).length cv,ay⟩)) (n,⟨.slice pv (Zs T n).length cv,ay⟩) rfl rfl cK.out rfl rfl (by unfold maxLen;omega) (by omega) cQ ?_;intro v6 w6 bf bH Y;obtain ⟨g6,cT,rfl⟩:=Zvj bf (by simp);have cG:=hid bf;have b8:=hid bH;have cj:=hid Y;clear bf bH Y))
     have Y:Kep (fun k=>k≠g) w5 w6:=(Zr _ _ _).trans (cj.out.mono fun k hk e=>hk (cm k e));have bz:=b6.out.lt;have a6:w3.heap.size≠g:=fun e=>bq e.symm;have bc:a.heap.size≠g:=fun e=>ZoL ax.out (e▸bD.out.map);have cf:=hid (b6.out.kep Y bc a6);have cH:=hid (bD.out.keep Y bc fun b o e=>Zm8 ax.out (e▸o));have df:=hid (b2.out.trans b8.out)
     have dd:=hid ((Y.block D (Xo.1 bo.out).1 (fun e=>by
      obtain ⟨ai,fr,U⟩:=ax.out;have:=bo.out;rw [e,U] at this;cases this)).trans bo.out)
     clear Y bz a6 bc;go_wp2_with fail;go_roundw
     case rel=>exact ⟨_,_,cd,g6,cT,(by rw [Xd];rfl),cG,aK,cf,cH,df,dd⟩
     case measure =>
      rw [c8.out,cf.out.left_eq];exact cZ.out
 ·have e0:Z5 (z,fs)=[]:=by unfold Z5;rw [Xe h0]
  rw [e0];obtain ⟨c,U⟩:=Xn (ZG (z,fs));rw [U] at aq h0;have q1:(c != 0)=true:=by simp [h0]
  clear e0 U h0 hr;go_enter func125,ntmps125;go_wp2_with fail;refine aq.out.mono ?_;rintro e a ⟨rfl,J⟩;have c6:=hid (grow bN.out J);clear J;go_wp2_with fail;go_ret;exact ⟨_,rfl,ZD.nil_ _ _,c6.out⟩
end EV
namespace SG
open RowKit MM EM SM
open EV (ZA Z8 Zad Zcb Zna ZiQ Zcw Zgu)
open RM (Zai Zhk ZcK Zjw)
open GM (ZbA sized evs Zt)
def Zd1 (k:Nat) (T:List Trm):List (Xu×ZdS):=T.map fun t=>(t.1,((k:Int),t.2))
theorem Zsv (k:Nat) {T:List Trm} {j:Nat} (a:j<T.length):Zd1 k (T.take (j+1))=Zd1 k (T.take j)++[(T[j].1,((k:Int),T[j].2))]:=by
 unfold Zd1;rw [XG a,XN];rfl
theorem Zsx (tss:List (List Trm)) (k:Nat):(Zai 0 (tss.take k)).length<=(Zai 0 tss).length:=by
 have h:=ZcK (tss.take k) (tss.drop k) 0;rw [X6] at h;rw [h,Xd];omega
theorem ZqF {B k:Nat} {X:Nat->Prop} {T:List (EM.Tr ZdS)} {F:Xu->Option Value} {a f:World} {s:Xu} {v:Value} {ps:List ZdS} (h:Tab B k X T F a) (l:Zbf Zd2 125 (fun b=>X b/\b<a.heap.size) f v ps)
  (i:∀g,v.ownBlock=some g->(found F s).ownBlock=some g\/a.heap.size<=g):Zbf Zd2 125 X f v ps :=
 Zbf.weak l (fun _ _ j=>j.1) fun g c d=>by
  rcases i g c with e|e
  ·exact (Zbf.lt (h.found s).1 g e).2 d
  ·have:=(h.hi g d).1;omega
def Zpz (l:List SM.Zo) (w:World) (e:Ending) (w':World):Prop:=∃a X F,e=.returned (.tuple #[.map (some a),.bool true])/\Tab w.heap.size a X (Zt l) F w'/\Below w.heap.size w w'
theorem ZyI (v:Value) (l:List SM.Zo) (w:World) (hv:ZN ZA w v l) (hS:isS l=true) (aK:ZbA l):Calls prog 75 #[v] w (Zpz l w):=by
 obtain ⟨p,bm,rfl,bn,be,_⟩:=hv.shape;unfold maxLen at be;have hz:=sized hS aK;have aH:=hz.pairs;have bo:=hz.rows;obtain ⟨tss,z⟩:=Xn ((evs l).map Z5);have Y:tss.length=l.length:=by rw [<- z];unfold evs;simp
 have bi:=hid (fun (k:Nat) (hk:k<l.length)=>(show ∃aV:k<tss.length,tss[k]=Z5 l[k].2 by subst z;exact ⟨by omega,by unfold evs;simp⟩));rw [z] at aH;have aN:=hid (fun k=>Xx (Zsx tss k) aH);have am:Zt l=ZC [] (Zai 0 (tss.take l.length)):=by rw [<- Y,XC,<- z];rfl
 have aQ:=hid am;have HV:=hid hv.bel;obtain ⟨a,M⟩:=Xn w.heap.size;obtain ⟨wm,aj⟩:=Xn (w.alloc (.map #[] 0));have aJ:Below w.heap.size w wm:=by rw [<- aj];exact (Below.refl _ _).alloc (Xc _) _
 have aD:Tab w.heap.size w.heap.size (fun _=>False) [] (fun _=>Option.none) wm:=by rw [<- aj];exact Tab.made w _ (Xc _)
 have H0:Hid (∃X F,Tab a a X (ZC [] (Zai 0 (tss.take 0))) F wm):=hid ⟨_,_,by rw [M] at aD;exact aD⟩;have a5:Hid (Below a w wm):=hid (by rw [M] at aJ;exact aJ);have aq:=hid aj;have bp:=@run_makeMap prog;rw [M] at HV;unfold Zpz;rw [M];have ak:=hid M;clear hv hS aK hz am z aj aJ aD aH;go_enter func75,ntmps75;go_wp2_with (rw [aq.out])
 have ba:a<wm.heap.size:=by
  have:=aq.out;rw [<- this,<- ak.out];simp
 go_loopw [2,11] (fun mv iv wr=>mv=.map (some a)/\∃k:Nat,k<=l.length/\iv=.int .i64 k/\Hid (∃X F,Tab a a X (ZC [] (Zai 0 (tss.take k))) F wr)/\Hid (Below a w wr)) (fun _ iv _=>l.length - (intOf iv).toNat)
 case atStart=>exact ⟨by go_simp,0,by omega,rfl,H0,a5⟩
 case round =>
  obtain ⟨rfl,k,hk,rfl,HF,HB⟩:=hrel;clear H0 a5 aq ba
  by_cases E:k<l.length
  ·have q1:decide ((k:Int)<(l.length:Int))=true:=Xt;have q2:decide (k<l.length)=true:=Xt;have q3:(k:Int)<(l.length:Int):=by omega
   have V:a<=wr.heap.size:=by have:=HB.out.size;have:=ak.out;omega
   obtain ⟨b,off,vf,rfl,bk,_,c1,c2,c3,I⟩:=Zad (ZD.keep HV.out (Ziu HB.out) fun _ _ h=>h) E;obtain ⟨aV,aa⟩:=bi.out k E;obtain ⟨⟨sq,⟨t,fs⟩⟩,hd⟩:∃d,l[k]=d:=⟨_,rfl⟩;rw [hd] at c1 c2 I aa;dsimp only at c1 c2 I aa;obtain ⟨pf,cf,rfl,_⟩:=I.shape;obtain ⟨w1,aI⟩:=Xn (wr.alloc (.cells #[.int .i64 sq,.int .i64 t,.slice pf fs.length cf] 59));have af:Below wr.heap.size wr w1:=by rw [<- aI];exact (Below.refl _ _).alloc (Xc _) _
   have HC:=hid (EV.ZvU t (.slice pf fs.length cf) fs w1 (I.any.below af));obtain ⟨T,hT⟩:=Xn (Z5 (t,fs));have bd:=hid (fun (x:Trm) (hx:x∈T)=>(RM.Zm6 (e:=(t,fs)) (by rw [hT];exact hx)).2);rw [hT] at HC aa;have ab:Zai 0 (tss.take (k+1))=Zai 0 (tss.take k)++Zd1 k T:=by rw [Zhk aV,aa];rfl
   have al:=aN.out (k+1);rw [ab,Xd] at al;obtain ⟨X,F0,aW⟩:=HF.out;have aE:=aW.below af;obtain ⟨R0,aR⟩:=Xn (Zai 0 (tss.take k));rw [aR] at aE ab al;have bf:T.length=(Zd1 k T).length:=by unfold Zd1;simp
   have bj:T.length<=200000:=by omega
   have a7:=hid aE;have ar:=hid (HB.out.trans (af.mono V));have a9:=hid aI;have bg:=hid ab;have bh:=hid al;have bc:=hid E;have br:=hid V;clear af aI I hd hT aa ab al aW aE aR HF HB E V bf;go_wp2_with fail;rw [a9.out];refine HC.out.mono ?_;rintro e w2 ⟨u,rfl,hu,ay⟩;obtain ⟨pu,cu,rfl,bl,a1,_⟩:=ZD.shape hu;unfold maxLen at a1;have hX:=a7.out.more ay;obtain ⟨D,aw⟩:∃D:Nat->Prop,(fun b=>X b\/(w1.heap.size<=b/\b<w2.heap.size))=D:=⟨_,rfl⟩;have a6:ZD Zcb D w2 (.slice pu T.length cu) T:=ZD.weak hu fun b i h=>by rw [<- aw];exact .inr ⟨h,i⟩
   rw [aw] at hX;have H1:Hid (∃F,Tab a a D (ZC [] (R0++Zd1 k (T.take 0))) F w2):=hid ⟨F0,by rw [show Zd1 k (T.take 0)=[] from rfl,XI];exact hX⟩;have HU:=hid a6;have aU:=hid (ar.out.trans (ay.mono (by have:=ar.out.size;have:=ak.out;omega)));clear hu ay hX a6 aw HC c1 c2 c3 a7 ar a9;go_wp2_with fail
   go_loopw [20] (fun jv wj=>∃j:Nat,j<=T.length/\jv=.int .i64 j/\Hid (∃F,Tab a a D (ZC [] (R0++Zd1 k (T.take j))) F wj)/\Hid (ZD Zcb D wj (.slice pu T.length cu) T)/\Hid (Below a w wj)) (fun jv _=>T.length - (intOf jv).toNat)
   case atStart=>exact ⟨0,by omega,rfl,H1,HU,aU⟩
   case round =>
    obtain ⟨j,hj,rfl,HF,ae,HB⟩:=hrel;clear H1 HU aU
    by_cases q:j<T.length
    ·have r1:decide ((j:Int)<(T.length:Int))=true:=Xt;have r2:decide (j<T.length)=true:=Xt;have r3:(j:Int)<(T.length:Int):=by omega
     obtain ⟨g,o,pv,rfl,bq,bs,d0,d1,O⟩:=Zna ae.out q;have ag:=Zsv k q;have V:a<=wr.heap.size:=by have:=HB.out.size;have:=ak.out;omega
     obtain ⟨⟨s,L⟩,az⟩:∃x,T[j]=x:=⟨_,rfl⟩;rw [az] at d0 O ag;dsimp only at d0 O ag;obtain ⟨pz,cz,rfl,_⟩:=O.shape
     have aA:s.length<=maxLen:=by
      have:=bd.out T[j] (XH q);rw [az] at this;dsimp only at this;unfold maxLen;omega
     obtain ⟨F,W⟩:=HF.out;obtain ⟨R,hR⟩:=Xn (ZC [] (R0++Zd1 k (T.take j)));have aX:ZC [] (R0++Zd1 k (T.take (j+1)))=Zaj R s ((k:Int),L):=by rw [ag,<- Xl,ZaW,hR];rfl
     have aG:(R0++Zd1 k (T.take j)).length<=200000:=by
      have:=bh.out;have e:(Zd1 k (T.take j)).length<=(Zd1 k T).length:=by unfold Zd1;rw [XE,XE,Xi];omega
      rw [Xd];omega
     have H:(Zs R s).length<=200000:=by rw [<- hR];exact Xx (Zgu _ _) aG
     have ap:R.length<=200000:=by rw [<- hR];exact Xx (Zcw _ _) (by simpa using aG)
     rw [hR] at W;obtain ⟨J,ah⟩:=Xn ((wr.alloc (.cells #[.string ⟨s.toArray⟩,.slice pz L.length cz] 204)).drew);have B:Below wr.heap.size wr J:=by rw [<- ah];exact ((Below.refl _ _).alloc (Xc _) _).drew
     have a2:Two J wr.heap.size 204 (.string ⟨s.toArray⟩) (.slice pz L.length cz):=by rw [<- ah];exact (ZdP wr 204 _ _).keep (Zcl (fun _=>True) _) trivial
     have ad:=W.below B;have ai:=ad.found s;have aO:=W.found s;have aT:=W.map.lt;have a4:ZD Zcb D J (.slice (some ⟨g,o,none⟩) T.length cu) T:=ZD.keep ae.out (Za _ B) fun _ _ h=>h;have aL:ZD Zbw D J (.slice pz L.length cz) L:=ZD.keep O (Za _ B) fun _ _ h=>h;have bb:prog.follows .mixedOrders=true:=by kernel_rfl
     have hG:∀G,Kep (fun b=>b≠a/\(found F s).ownBlock≠some b) J G->G.cell? ⟨wr.heap.size,0,none⟩=some (.string ⟨s.toArray⟩)/\G.cell? ⟨wr.heap.size,1,none⟩=some (.slice pz L.length cz):=fun G hW =>
      have h:=a2.keep hW ⟨by omega,fun e=>by have:=(aO.2 _ e).2.2;omega⟩
      ⟨h.c0,h.c1⟩
     have an:∀G,Kep (fun b=>b≠a/\(found F s).ownBlock≠some b) J G->ZD Zcb D G (.slice (some ⟨g,o,none⟩) T.length cu) T/\Below a w G:=fun G hW =>
      ⟨ZD.keep a4 (hW.mono' fun b _ i=>⟨(ad.hi b i).2,fun e=>(Zbf.lt ai.1 b e).2 i⟩) fun _ _ h=>h,
       (HB.out.trans (B.mono V)).trans (hW.below (by have:=B.size;omega) fun b i=>⟨by omega,fun e=>by have:=(ai.2 _ e).1;omega⟩)⟩
     have HG:=hid hG;have ao:=hid an;have r:=hid ad;have ac:=hid ai;have a8:=hid aX;have aM:=hid aL;have a3:=hid q;have a0:=hid (fun G (h:Tab a a D R F G)=>h.look s aA);have aP:=hid ap;have aZ:=hid H;have aY:a<=J.heap.size:=by have:=B.size;omega
     clear ag az O aX aG H ap W B a2 ad ai aO aT a4 aL hG an hR HF ae HB q;go_wp2_with fail;refine RT.ZaF (T:=fun b=>b≠a/\(found F s).ownBlock≠some b) (.take 0<|.take 1<|.take 2<|.take 3<|.take 4<|.take 5<|.take 7<|.take 8<|.take 9<|.take 10<|.both 6 11 (.alone 11<|.alone 12<|.alone 13<|.done) (.alone 6<|.alone 12<|.alone 13<|.done)) bb (by kernel_rfl) rfl (by kernel_rfl) (fun _ _ d _ _ h=>by cases d<;>exact h) ?_;simp only [RT.Zy,XZ,X4,XX];rw [ah];clear ah;repeat (refine RT.take (by rfl) (by intro G hW;obtain ⟨g3,g7⟩:=HG.out G hW;go_simp;with_reducible rfl) ?_;simp only [Act.put,Xr,Xs,Xq])
     refine RT.both ?_ ?_
     ·refine RT.step (by rfl) (fun K c => ?_);have ax:=a0.out J r.out;go_simp;refine c.out _ _ (Kep.refl _ _) ?_;clear c K ax;try simp only [Act.put,Xr,Xs,Xq]
      refine RT.alone (RT.step (by rfl) (fun K c => ?_));go_simp;refine c.out _ _ (Zr _ _ _) ?_;clear c K;try simp only [Act.put,Xr,Xs,Xq]
      refine RT.alone (RT.step (by rfl) (fun K c => ?_));have H:=aZ.out;refine Zd8 ZyD (S:=D) _ _ rfl (found F s) (Zs R s) J [.int .i64 (k:Int),.slice pz L.length cz] ((k:Int),L) rfl rfl ac.out.1 (Zlj.2 ⟨_,rfl,aM.out⟩) rfl (by unfold maxLen;omega) (by omega) ?_;intro v' w3 Z m C y;refine c.out _ _ (y.mono fun b i=>i.2) ?_;clear c K;try simp only [Act.put,Xr,Xs,Xq]
      refine RT.alone (RT.step (by rfl) (fun K c => ?_));have Y:=aP.out;refine ZdQ underlying136 _ _ _ rfl a R.length F rfl (r.out.map.kep m fun e=>(ac.out.2 _ e).2.1 rfl) (by unfold maxLen;omega) s v' rfl rfl aA ?_;intro w4 U n;refine c.out _ _ (n.mono fun b i=>i.1) ?_;clear c K H Y;have f:=r.out.put aY m (ZqF r.out Z C) C U n;rw [<- a8.out] at f;have A:Kep (fun b=>b≠a/\(found F s).ownBlock≠some b) J w4:=(m.mono fun b i=>i.2).trans (n.mono fun b i=>i.1);obtain ⟨n1,n2⟩:=ao.out w4 A;have av:Hid (∃F,Tab a a D (ZC [] (R0++Zd1 k (T.take (j+1)))) F w4):=hid ⟨_,f⟩;have aF:=hid n1;have aC:=hid n2;clear f A n1 n2 U n Z m C y;refine RT.done ?_;go_wp2_with fail;have q:=a3.out;go_roundw
      case rel=>exact ⟨j+1,by omega,by go_num,av,aF,aC⟩
      case measure=>simp [intOf];omega
     ·refine RT.step (by rfl) (fun K c => ?_);go_simp;refine c.out _ _ (Zr _ _ _) ?_;clear c K;try simp only [Act.put,Xr,Xs,Xq]
      refine RT.alone (RT.step (by rfl) (fun K c => ?_));have ax:=a0.out _ (r.out.below ((Below.refl _ _).alloc (Xc _) (.cells #[.int .i64 (k:Int),.slice pz L.length cz] 125)));go_simp;refine c.out _ _ (Kep.refl _ _) ?_;clear c K ax;try simp only [Act.put,Xr,Xs,Xq]
      refine RT.alone (RT.step (by rfl) (fun K c => ?_));have H:=aZ.out;refine Zd8 ZyD (S:=D) _ _ rfl (found F s) (Zs R s) J [.int .i64 (k:Int),.slice pz L.length cz] ((k:Int),L) rfl rfl ac.out.1 (Zlj.2 ⟨_,rfl,aM.out⟩) rfl (by unfold maxLen;omega) (by omega) ?_;intro v' w3 Z m C y;refine c.out _ _ (y.mono fun b i=>i.2) ?_;clear c K;try simp only [Act.put,Xr,Xs,Xq]
      refine RT.alone (RT.step (by rfl) (fun K c => ?_));have Y:=aP.out;refine ZdQ underlying136 _ _ _ rfl a R.length F rfl (r.out.map.kep m fun e=>(ac.out.2 _ e).2.1 rfl) (by unfold maxLen;omega) s v' rfl rfl aA ?_;intro w4 U n;refine c.out _ _ (n.mono fun b i=>i.1) ?_;clear c K H Y;have f:=r.out.put aY m (ZqF r.out Z C) C U n;rw [<- a8.out] at f;have A:Kep (fun b=>b≠a/\(found F s).ownBlock≠some b) J w4:=(m.mono fun b i=>i.2).trans (n.mono fun b i=>i.1);obtain ⟨n1,n2⟩:=ao.out w4 A;have av:Hid (∃F,Tab a a D (ZC [] (R0++Zd1 k (T.take (j+1)))) F w4):=hid ⟨_,f⟩;have aF:=hid n1;have aC:=hid n2;clear f A n1 n2 U n Z m C y;refine RT.done ?_;go_wp2_with fail;have q:=a3.out;go_roundw
      case rel=>exact ⟨j+1,by omega,by go_num,av,aF,aC⟩
      case measure=>simp [intOf];omega
    ·obtain rfl:j=T.length:=by omega
     have r1:decide ((T.length:Int)<(T.length:Int))=false:=by simp
     have r2:decide (T.length<T.length)=false:=by simp
     have I:=HF.out;rw [XC,<- bg.out] at I;obtain ⟨F,W⟩:=I;have au:=Zcw (Zai 0 (tss.take (k+1))) ([]:List (EM.Tr ZdS));have aS:=aN.out (k+1);rw [Xm,XL] at au;have hL:=fun ty=>W.len ty;obtain ⟨N,hN⟩:=Xn ((ZC [] (Zai 0 (tss.take (k+1)))).length);rw [hN] at au;simp only [hN] at hL;have s1:decide ((N:Int)>262144)=false:=Xf;have s2:decide (262144<N)=false:=Xf;have aB:Hid (∃X F,Tab a a X (ZC [] (Zai 0 (tss.take (k+1)))) F wr):=hid ⟨_,_,W⟩;clear W hN au aS HF ae q;go_wp2_with fail;have E:=bc.out;go_roundw
     case rel=>exact ⟨rfl,k+1,by omega,by go_num,aB,HB⟩
     case measure=>simp [intOf];omega
  ·obtain rfl:k=l.length:=by omega
   have q1:decide ((l.length:Int)<(l.length:Int))=false:=by simp
   have q2:decide (l.length<l.length)=false:=by simp
   have I:=HF.out;rw [<- aQ.out] at I;have aB:=hid I;clear HF I E;go_wp2_with fail;go_ret2;obtain ⟨X,F,W⟩:=aB.out;exact ⟨_,X,F,rfl,W,HB.out⟩
