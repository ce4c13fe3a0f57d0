import Derived.Test.YtmomfobdpfajbaaGreatZA16
import Derived.Test.YtmomfobdpfajbaaGreatZA31
import Derived.Test.YtmomfobdpfajbaaGreatZA30
import Derived.Test.YtmomfobdpfajbaaGreatZA9
set_option maxRecDepth 100000
set_option maxHeartbeats 0
set_option linter.unusedVariables false
set_option linter.unusedSimpArgs false
namespace Go.Proofs.YtmomfobdpfajbaaGreat
open Tryz
namespace EV
open RowKit MM EM SM
variable {v:Value} {B mb g m:Nat} {w:World} {zs:List Int}
def tcC:Codec ZcX where
 size:=2
 on:=fun _ _ vs x=>vs=ZgM x
 pos:=by decide
 len:=fun h=>by rw [h];rfl
 keep:=fun h _ _=>h
 one:=fun {_ _ _ x} h u a=>by
  rw [h] at a;simp only [ZgM,XT,Xbk,or_false] at a;rcases a with rfl|rfl
  ·rfl
  ·exact x.2.2
theorem ZDa:Elem tcC prog 202 204 40:=⟨underlying202,by
 have h:(prog.info? 204).map (fun i=>(i.zero,i.size,i.bytes))=some (some (.agg #[.string ⟨#[]⟩,.slice none 0 0]),2,40):=by kernel_rfl
 obtain ⟨i,a,d,c,b⟩:=info_parts h;exact ⟨i,_,a,d,c,b,rfl⟩⟩
theorem Zom {α:Type} [DecidableEq α]:∀{a b:List α},a.Nodup->(∀x∈a,x∈b)->a.length<=b.length
 | [],b,_,_=>XX _
 | x::a,b,h,hs=>by
   obtain ⟨f,i⟩:=List.nodup_cons.1 h;have c:=hs x (by simp);have:=Zom (a:=a) (b:=b.erase x) i fun y d=>(List.mem_erase_of_ne (fun e:y=x=>f (by rw [<- e];exact d))).2 (hs y (by simp [d]));rw [List.length_erase_of_mem c] at this;have hl:0<b.length:=List.length_pos_of_mem c;rw [Xh];omega
theorem Zcy {α:Type}:∀{T:List (EM.Tr α)} {s:Xu},Zm T s≠[]->s∈T.map (·.1)
 | [],s,h=>absurd rfl h
 | t::r,s,h=>by
   rw [Zm] at h
   by_cases e:t.1=s
   ·simp [e]
   ·rw [Xc e] at h;have:=Zcy h;rw [XC];exact Xa6 _ this
structure Coll (F:Xu->Option Value) (left:Xu->Bool) (d:List ZcX):Prop where
 val:∀x∈d,F x.1=some x.2.1/\left x.1=false
 nodup:(d.map (·.1)).Nodup
 all:∀s,(F s).isSome=true->left s=true\/s∈d.map (·.1)
theorem Coll.start (F:Xu->Option Value):Coll F (fun n=>(F n).isSome) []:=⟨fun _ h=>(by cases h),List.nodup_nil,fun s h=>.inl h⟩
theorem Coll.next {F:Xu->Option Value} {left:Xu->Bool} {d:List ZcX} (h:Coll F left d) {n:Xu} (q:v.oneCell'=true) (l:left n=true) (p:F n=some v) :
  Coll F (fun k=>left k && !decide (k=n)) (d++[(n,⟨v,q⟩)]):=by
 refine ⟨fun x c => ?_,?_,fun s hs => ?_⟩
 ·rcases Xam.1 c with c|c
  ·exact ⟨(h.val x c).1,by simp [(h.val x c).2]⟩
  ·obtain rfl:=XaJ.1 c;exact ⟨p,by simp⟩
 ·rw [XM,List.nodup_append];refine ⟨h.nodup,by simp,fun a o b j e => ?_⟩;simp only [XC,XN,XaJ] at j;subst j;subst e;obtain ⟨x,c,i⟩:=X4.1 o;have:=(h.val x c).2;rw [i,l] at this;cases this
 ·by_cases e:s=n
  ·exact .inr (by simp [e])
  ·rcases h.all s hs with f|f
   ·exact .inl (by simp [f,e])
   ·exact .inr (by rw [XM];exact List.mem_append_left _ f)
theorem Zot (f:Xu->List Int):∀(d:List ZcX) (s:Xu),Zm (d.map fun x=>((x.1,f x.1):Trm)) s=if s∈d.map (·.1) then f s else []
 | [],s=>by simp [Zm]
 | x::d,s=>by
   rw [XC,Zm,Zot f d s]
   by_cases e:x.1=s
   ·subst e;simp
   ·rw [Xc e]
    have:(s∈(x::d).map (·.1))↔s∈d.map (·.1):=by
     rw [XC,XT];exact ⟨fun h=>h.resolve_left fun b=>e b.symm,.inr⟩
    by_cases a:s∈d.map (·.1)
    ·rw [Xe a,Xe (this.2 a)]
    ·rw [Xc a,Xc fun h=>a (this.1 h)]
theorem Zqi {T:List Trm} {F:Xu->Option Value} (c:Plc B mb T F w) {left:Xu->Bool} {d b:List ZcX} (h:Coll F left d) (l:∀n,left n=false) (f:b.Perm d) (hs:b.Pairwise fun x y=>Zg y.1 x.1=false) :
  (b.map fun x=>((x.1,Zm T x.1):Trm))=T:=by
 have i:(b.map (·.1)).Nodup:=(f.map (·.1)).nodup_iff.2 h.nodup;refine Zfw ?_ c.rise ?_ c.ne fun s => ?_
 ·unfold ZX;rw [List.pairwise_map]
  have p:b.Pairwise fun x y=>x.1≠y.1:=by
   have:=i;unfold List.Nodup at this
   rwa [List.pairwise_map] at this
  exact (hs.and p).imp fun ⟨a,k⟩=>ZaC a (fun e=>k e.symm)
 ·intro t j;obtain ⟨x,o,rfl⟩:=X4.1 j;exact (c.own x.1 _ (h.val x (f.mem_iff.1 o)).1).2.1
 ·rw [Zot]
  by_cases e:s∈b.map (·.1)
  ·rw [Xe e]
  ·rw [Xc e];refine (c.none s ?_).symm;cases hf:F s with
   | none=>rfl
   | some v =>
     rcases h.all s (by rw [hf];rfl) with a|a
     ·rw [l] at a;cases a
     ·exact absurd ((f.map (·.1)).mem_iff.2 a) e
theorem Zxo {T:List Trm} {F:Xu->Option Value} (c:Plc B mb T F w) {left:Xu->Bool} {d:List ZcX} (h:Coll F left d):d.length<=T.length:=by
 have:=Zom (b:=T.map (·.1)) h.nodup fun s hs=>by
  obtain ⟨x,a,rfl⟩:=X4.1 hs;exact Zcy (c.own x.1 _ (h.val x a).1).2.1
 simpa using this
theorem ZsD {a:List (List Value)} {n:Nat} (p:0<n) (f:∀r∈a,r.length=n) {b off:Nat} (h:∀i (hi:i<a.length) j u,a[i][j]? = some u->w.cell? ⟨b,off+i*n+j,none⟩=some u) :
  ∀j u,a.flatten[j]? = some u->w.cell? ⟨b,off+j,none⟩=some u:=fun j u o=>by
 have d:=(Xak.1 o).1;rw [ZeM f] at d;have hi:j / n<a.length:=(Nat.div_lt_iff_lt_mul p).2 d;have q:=XaM j p;have k:=Nat.div_add_mod j n;have s:=f a[j / n] (XI hi);obtain ⟨u',c⟩:∃u,a[j / n][j%n]? = some u:=⟨_,XZ (l:=a[j / n]) (i:=j%n) (by omega)⟩;have hf:=flat_get f (j / n) hi (j%n) u' c;have e:j / n*n+j%n=j:=by rw [Nat.mul_comm];exact k
 rw [e,o] at hf;obtain rfl:=XW hf;have:=h _ hi _ _ c;rw [Xat,e] at this;exact this
theorem Zy1 (h:ZgJ w v zs/\zs≠[]/\∀g,v.ownBlock=some g->B<=g):ZB Zbk (fun b=>B<=b) w v zs:=Zbj.ron h.1 (fun g a=>h.2.2 g a) fun _ _ h=>h.elim
theorem Zxp {T:List Trm} {F:Xu->Option Value} (z:Plc B mb T F w) {left:Xu->Bool} {d a:List ZcX} (h:Coll F left d) (D:∀n,left n=false) (s:a.Perm d) (hs:a.Pairwise fun x y=>Zg y.1 x.1=false)
  {g c:Nat} (t:Zih w g a) (E:g<w.heap.size) (l:d.length<=c) (o:c<=maxLen) (p:B<=g):ZiX B w (.slice (some ⟨g,0,none⟩) d.length c) T:=by
 have q:=Zqi z h D s hs;have f:T.length=d.length:=by rw [<- q,XF];exact s.length_eq
 refine ⟨some ⟨g,0,none⟩,c,a.map ZgM,by rw [f],by rw [f];exact l,o,(fun e=>by cases e),⟨by rw [XF,<- q,XF],fun i hi C => ?_⟩,.inr ⟨g,0,rfl,E,p,?_⟩⟩
 ·have b:i<a.length:=by simpa using hi
  have e:T[i]=(a[i].1,Zm T a[i].1):=by
   have:T[i]? = some (a[i].1,Zm T a[i].1):=by
    conv=>lhs;rw [<- q]
    simp [b]
   exact (Xak.1 this).2
  rw [Xax,e,ZpK];exact ⟨a[i].2.1,rfl,Zy1 (z.own _ _ (h.val a[i] (s.mem_iff.1 (XI b))).1)⟩
 ·refine ZsD (n:=2) (by omega) (fun r A=>by obtain ⟨x,_,rfl⟩:=X4.1 A;rfl) fun i hi j u k => ?_;have b:i<a.length:=by simpa using hi
  rw [Xax] at k;rw [XL]
  match j,k with
  | 0,k =>
    obtain rfl:=XW k;exact (t i b).1
  | 1,k =>
    obtain rfl:=XW k;exact (t i b).2
theorem ZyZ {S:Nat->Prop} {w':World} {d:List ZcX} (h:ZbB tcC 204 B w v d) (e:Kep S w w') (f:∀g,v.ownBlock=some g->S g):ZbB tcC 204 B w' v d:=by
 obtain ⟨b,j,c⟩:=h;exact ⟨b,ZdY j e f,c.1,fun i hi a=>c.2 i hi a⟩
theorem ZsW (h:w.ownsRow B 204 2 v 0 []):ZbB tcC 204 B w v []:=⟨[],h,Zbq.nil_ _ _⟩
theorem ZvS {d:List ZcX} (h:ZbB tcC 204 B w v d) (c:d≠[]):∃g a,v=.slice (some ⟨g,0,none⟩) d.length a:=by
 obtain ⟨f,i,h2⟩:=h;rcases i.2 with ⟨_,e⟩|⟨g,a,b,j,_⟩
 ·exact absurd (XP e) c
 ·exact ⟨g,a,j⟩
def ZhB (w:World) (g:Nat):Prop:=∃a fr,w.heap[g]? = some (.cells a 204 fr)
theorem ZmF {b:Nat} {d:List ZcX} (h:ZbB tcC 204 B w (.slice (some ⟨g,0,none⟩) d.length b) d):Zih w g d/\(∀j,w.frozen? ⟨g,j,none⟩=false)/\g<w.heap.size/\d.length<=b/\b<=maxLen/\B<=g/\ZhB w g:=by
 have e:=ZbB.lt h g rfl
 have f:∀j,w.frozen? ⟨g,j,none⟩=false:=by
  obtain ⟨o,l,_⟩:=h;exact fun j=>World.ownsRow.frozenAt l j
 have q:ZhB w g:=by
  obtain ⟨o,l,_⟩:=h;exact (Zbn l rfl).2
 obtain ⟨p,cap',r,k,n,_⟩:=h.shape;simp only [Value.slice.injEq] at r;obtain ⟨_,_,rfl⟩:=r;refine ⟨fun i hi => ?_,f,e.2,k,n,e.1,q⟩;obtain ⟨vs,c,a,_⟩:=ZbB.elem h hi;have c:vs=ZgM d[i]:=c;subst c;exact ⟨a 0 _ rfl,a 1 _ rfl⟩
theorem Znf (h:ZhB w g) (c:ZbK w g):False:=by
 obtain ⟨c1,f1,b⟩:=h;obtain ⟨c2,f2,a⟩:=c;rw [b] at a;simp only [Xx,Obj.cells.injEq] at a;exact absurd a.2.1 (by decide)
theorem ZoV {F:Xu->Option Value} (h:ZhB w g) (d:Zb9 w g m F):False:=by
 obtain ⟨c1,f1,b⟩:=h;obtain ⟨es,c,a⟩:=d.obj;rw [b] at a;cases a
theorem Ztw {cnt:Nat} {F:Xu->Option Value} {left:Xu->Bool} (h:ZhB w g) (a:Zd8 w mb g m F left cnt):False:=by
 obtain ⟨c1,f1,f⟩:=h;obtain ⟨D,lf,a,_⟩:=a;obtain ⟨es,b,c,e,c0,g1,g2,g3,g4,d,rest⟩:=a;rw [f] at d;cases d
theorem ZgJ.shape (h:ZgJ w v zs):∃p c,v=.slice p zs.length c:=by
 obtain ⟨p,c,a,_⟩:=(Zbj.any h).shape;exact ⟨p,c,a⟩
end EV
namespace EV
open RowKit Go.Shelf MM EM SM
open TK (Z4 Zag ZdV ZbA Zjn Zik KIn Zcb)
open RF (ZAl Zdl Left Zuk)
variable {S:Nat->Prop} {w w':World} {b mb m D g:Nat} {t:TypeId} {cs:List Value} {ws:List Xu}
attribute [local go_sem] Oper.semAt_some
def Zbp (w:World) (b:Nat) (t:TypeId) (cs:List Value):Prop:=∃fr,w.heap[b]? = some (.cells cs.toArray t fr)
theorem Zbp.new (w:World) (t:TypeId) (cs:List Value):Zbp (w.alloc (.cells cs.toArray t)) w.heap.size t cs:=⟨_,heap_alloc_new w _⟩
theorem Zbp.kep (h:Zbp w b t cs) (a:Kep S w w') (c:S b):Zbp w' b t cs:=by
 obtain ⟨fr,h⟩:=h;exact ⟨fr,(a.block b (Xq.1 h).1 c).trans h⟩
theorem Zbp.below (h:Zbp w b t cs) (a:Below w.heap.size w w'):Zbp w' b t cs:=h.kep (Za (fun _=>True) a) trivial
theorem Zbp.cell (h:Zbp w b t cs) (i:Nat) (u:Value) (hi:cs[i]? = some u):w.cell? ⟨b,i,none⟩=some u:=by
 obtain ⟨fr,h⟩:=h;rw [cell_of_row _ _ i _ _ _ h];simpa using hi
theorem Zbp.not_ints (h:Zbp w b t cs) (e:t≠3):¬ZbK w b:=fun ⟨d,fr,a⟩=>by
 obtain ⟨c,h⟩:=h;rw [h] at a;simp only [Xx,Obj.cells.injEq] at a;exact e a.2.1
theorem Zbp.ne_map {F:Xu->Option Value} (h:Zbp w b t cs) (d:Zb9 w mb m F):b≠mb:=by
 rintro rfl;obtain ⟨fr,h⟩:=h;obtain ⟨es,c,a⟩:=d.obj;rw [h] at a;cases a
theorem Zbp.own (t:TypeId) (cs:List Value) (b B:Nat):OwnFrom B (fun (_:Unit) W=>Zbp W b t cs):=fun _ W W' row h f c=>by
 obtain ⟨fr,h⟩:=h;refine ⟨fr,(f.block b (Xq.1 h).1 (fun e => ?_)).trans h⟩;obtain ⟨_,o,a,d⟩:=c b e.symm;rw [h] at a;cases a
 cases d
def Inv (B mb a:Nat) (w:World) (pre:List Item) (W:World):Prop:=(∃F,Plc B mb (Zz [] (ZcV pre)) F W)/\Zbp W a 263 [.map (some mb)]/\Below B w W/\(ZcV pre).length<=4096*pre.length
theorem ZBw {B:Nat} (T:List Trm) (F:Xu->Option Value) (hm:mb<D):OwnFrom D (fun (_:Unit) W=>Plc B mb T F W):=fun _ W W' row h n c =>
 h.keep (S:=fun k=>row≠some k) (ZO n fun k i a=>a i) (fun e=>by have:=(c mb e).1;omega) fun b ⟨f,fr,l⟩ e=>by
  obtain ⟨_,o,d,j⟩:=c b e;rw [l] at d;cases d
  cases j
theorem Zub (B mb f D:Nat) (w:World) (l:mb<D) (k:B<=w.heap.size) (c:B<=D):OwnFrom D (Inv B mb f w):=fun pre W e row h d a=>by
 obtain ⟨⟨F,n⟩,o,j,i⟩:=h;exact ⟨⟨F,ZBw _ F l () W e row n d a⟩,Zbp.own _ _ _ D () W e row o d a,ownFrom_below (β:=Unit) (n₀:=B) (B:=D) (w₀:=w) k c () W e row j d a,i⟩
theorem Zcb.own (g B:Nat):OwnFrom B (fun (_:Unit) W=>Zcb W g):=fun _ W W' row h i d=>by
 obtain ⟨a,fr,h⟩:=h;refine ⟨a,fr,(i.block g (Xq.1 h).1 (fun e => ?_)).trans h⟩;obtain ⟨_,o,c,f⟩:=d g e.symm;rw [h] at c;cases c
 cases f
theorem Zuw (D:Nat):OwnFrom D Vow:=fun x W y row h c d=>by
 obtain ⟨⟨g,f,l⟩,q,a⟩:=h;refine ⟨⟨g,f,Zcb.own g D () W y row l c d⟩,?_,a⟩;obtain ⟨p,n,f,v,u,j⟩:=q;refine ⟨p,n,f,v,u,?_⟩;rcases j with j|⟨b,off,s,k,o⟩
 ·exact .inl j
 ·refine .inr ⟨b,off,s,XJ k c.size,fun i hi => ?_⟩;exact ⟨cell_kept (o i hi).1 c fun r e=>(d r e).2,cell_kept (o i hi).2 c fun r e=>(d r e).2⟩
def Zkt (w:World) (g:Nat) (ws:List Xu):Prop:=Zcb w g/\Zik w (.slice (some ⟨g,0,none⟩) ws.length ws.length) (ZdV ws)
theorem Zkt.kep (h:Zkt w g ws) (c:Kep S w w') (e:S g):Zkt w' g ws:=by
 obtain ⟨⟨d,fr,n⟩,p,k,a,r,s,f⟩:=h;have j:=(Xq.1 n).1;refine ⟨⟨d,fr,(c.block g j e).trans n⟩,p,k,a,r,s,?_⟩;rcases f with f|⟨b,off,o,l,q⟩
 ·exact .inl f
 ·simp only [Value.slice.injEq] at a;rw [o] at a;simp only [Xx,Addr.mk.injEq] at a;obtain ⟨⟨rfl,rfl,_⟩,_⟩:=a;refine .inr ⟨g,0,o,XJ l c.size,fun i hi => ?_⟩;rw [c.cell l e,c.cell l e];exact q i hi
theorem Zkt.at_ (h:Zkt w g ws) {k:Nat} (e:k<ws.length):w.cell? ⟨g,k*2,none⟩=some (.string ⟨ws[k].toArray⟩)/\w.cell? ⟨g,k*2+1,none⟩=some (.int .i64 (k:Int))/\g<w.heap.size:=by
 obtain ⟨b,off,a,f,c,d⟩:=KIn.at_ h.2 (k:=k) (by rw [ZbA];exact e);simp only [Xx,Addr.mk.injEq] at a;obtain ⟨rfl,rfl,_⟩:=a;rw [Zjn,XL] at c d;exact ⟨c,d,f⟩
theorem ZzE (h:Zcb w g) (d:ZbK w g):False:=by
 obtain ⟨c1,f1,c⟩:=h;obtain ⟨c2,f2,a⟩:=d;rw [c] at a;simp only [Xx,Obj.cells.injEq] at a;exact absurd a.2.1 (by decide)
theorem ZB0 {F:Xu->Option Value} (h:Zcb w g) (e:Zb9 w g m F):False:=by
 obtain ⟨c1,f1,d⟩:=h;obtain ⟨es,c,a⟩:=e.obj;rw [d] at a;cases a
theorem Znp (d:Kep S w w') (i:∀k,D<=k->k<w.heap.size->¬S k->∃o,w.heap[k]? = some o/\o.isCells=true):KeepsFrom D w w' :=
 ⟨d.size,fun k o l a j=>by
  have c:=(Xq.1 a).1
  by_cases h:S k
  ·rw [d.block k c h];exact a
  ·obtain ⟨o2,f,e⟩:=i k l c h;rw [a] at f;cases f
   rw [j] at e;cases e⟩
theorem Zwp (z:Int) (v:Value) (fs:List Fld) (w:World) (hr:ZF Zae w v fs):Calls prog 125 #[.agg #[.int .i64 z,v]] w (ZpU (Z1 (z,fs)) w):=by
 have H:=Zbx w z v;have cg:=Zer z v fs (ZaZ w z v) (hr.below H);obtain ⟨p,Y,rfl,dp,cP,_⟩:=hr.shape;unfold maxLen at cP;have aA:=Y4 cg;have b7:=Y4 H;clear cg H
 by_cases h0:ZH (z,fs)=0
 ·rw [h0] at aA;have e0:Z1 (z,fs)=Zb6 fs:=by unfold Z1;rw [Xc (by simp [h0])]
  rw [e0];obtain ⟨cY,aD⟩:=ZaK.1 h0;have bL:∀f∈fs,f.1.length<=4096:=fun f hf=>by have:=Zda (aD f hf).1;omega
  have hx:∀f∈fs,f.2.length<=4096:=fun f hf=>(aD f hf).2;have dc:=Y4 bL;have HX:=Y4 hx;have HR:=Y4 hr.bel;clear h0 e0 aD bL hx hr;refine (callsIn_wide (n:=5)).1 ?_;refine callsIn_of_wp_marks func125 rfl trivial ?_ rfl;simp only [ntmps125,Xar,Xh,Xv,Nat.reduceAdd,Nat.reduceSub,XaD,XaE,XaF,XaG,XE,XK];gi_wp2
  refine ⟨trivial,(callsIn_wide.2 aA.z).mono ?_⟩;rintro e a ⟨rfl,I⟩;have db:=Y4 (grow b7.z I);obtain ⟨_,cc,_⟩:=ZcR (I);have ct:=(ZcR I).1;have dw:=@run_makeMap prog;have al:w.heap.size<a.heap.size:=by have:=I.size;rw [ZbX] at this;omega
  obtain ⟨W1,an⟩:=Xn ((a.alloc (.map #[] 0)).alloc (.cells #[.map (some a.heap.size)] 263));have aF:Below a.heap.size a W1:=by rw [<- an];exact ((Below.refl _ _).alloc (Xa _) _).alloc (by simp) _
  have d0:((a.alloc (.map #[] 0)).alloc (.cells #[.map (some a.heap.size)] 263)).cell? ⟨w.heap.size,0,none⟩=some (.int .i64 z):=by rw [an];exact (aF.cell (p:=⟨w.heap.size,0,none⟩) al).trans ct
  have d1:((a.alloc (.map #[] 0)).alloc (.cells #[.map (some a.heap.size)] 263)).cell? ⟨w.heap.size,1,none⟩=some (.slice p fs.length Y):=by rw [an];exact (aF.cell (p:=⟨w.heap.size,1,none⟩) al).trans cc
  have cR:=Y4 an;clear an;clear aA I;gi_wp2
  refine ⟨trivial,(Zvd 4 z p fs.length Y _).mono ?_⟩;rintro e w0 ⟨rfl,ak⟩;have cf:w.heap.size<=a.heap.size:=Xal al;have ds:w0.heap.size=a.heap.size+1+1+1:=by rw [ak];simp
  have bS:Plc w.heap.size a.heap.size [] (fun _=>none) w0:=by
   rw [ak];exact ((Plc.made a w.heap.size cf).below ((Below.refl _ _).alloc (Xa _) _)).below ((Below.refl _ _).alloc (Xa _) _)
  have bC:Zbp w0 (a.heap.size+1) 263 [.map (some a.heap.size)]:=by
   rw [ak];have:=Zbp.new (a.alloc (.map #[] 0)) 263 [.map (some a.heap.size)];rw [show (a.alloc (.map #[] 0)).heap.size=a.heap.size+1 by simp] at this;exact this.below ((Below.refl _ _).alloc (Xa _) _)
  have bA:w0.cell? ⟨a.heap.size+1+1,1,none⟩=some (.slice p fs.length Y):=by
   rw [ak];have:=(ZhP ((a.alloc (.map #[] 0)).alloc (.cells #[.map (some a.heap.size)] 263)) (.int .i64 z) (.slice p fs.length Y) 57).2
   rwa [show ((a.alloc (.map #[] 0)).alloc (.cells #[.map (some a.heap.size)] 263)).heap.size=a.heap.size+1+1 by simp] at this
  have J:Below w.heap.size w w0:=by
   rw [ak];exact db.z.trans ((((Below.refl _ _).alloc (Xa _) _).alloc (by simp) _).alloc (by simp;omega) _ |>.mono cf)
  have bo:Inv w.heap.size a.heap.size (a.heap.size+1) w [] w0:=⟨⟨_,bS⟩,bC,J,by simp [ZcV]⟩;have bu:=HR.z.below J;clear ak d0 d1 ct cc aF cR bS bC;gi_wp2
  refine Zuk rfl (by omega) (gf:=224) (lb:=#[.pointer (some ⟨a.heap.size+1+1,0,none⟩)]) rfl trivial (enters_of func224 (by kernel_rfl) rfl)
   (ZsA 4 (by omega) (a.heap.size+1+1) w.heap.size _ fs cY dc.z HX.z w0 (by omega) (by omega) bA bu) (Below.refl _ _) (by omega) (fun _=>rfl)
   (fun pre W=>Inv w.heap.size a.heap.size (a.heap.size+1) w pre W) (fun _ _=>False) (Zub _ _ _ _ w (by omega) (Xa _) (by omega)) (fun _ _ _ _ h _ _=>h) (Zuw _) bo
   (fun x a' W=>∃Bx,Zbp W Bx 268 [.string ⟨x.2.1.toArray⟩,x.2.2.1]/\w.heap.size<=Bx/\a'={ tmps:=#[.agg #[.int .i64 z,.slice p fs.length Y],.pointer (some ⟨w.heap.size,0,none⟩),.slice none 0 0,.pointer (some ⟨a.heap.size+1,0,none⟩),.int .i64 x.1,.pointer (some ⟨Bx,0,none⟩),
    undef,undef,undef,undef,undef,undef,.agg #[.int .i64 z,.slice p fs.length Y],.int .i64 0,.bool false,.map (some a.heap.size),.agg #[.int .i64 z,.slice p fs.length Y],.func (.func 224) #[] #[.pointer (some ⟨a.heap.size+1+1,0,none⟩)],
    .int .i64 x.1,.agg #[.string ⟨x.2.1.toArray⟩,x.2.2.1],undef,undef,undef,undef,undef,undef,undef,undef,undef,undef,undef,undef,undef,undef,undef,undef,undef,undef,undef,undef,undef,undef,undef,undef,undef,undef,undef,undef,undef,undef,undef,undef,undef,undef,undef,undef,undef,undef,undef,undef,undef,undef,undef,undef],defers:=[] })
   (fun a' x W y row h hg hr=>by obtain ⟨Bx,h1,h2,h3⟩:=h;exact ⟨Bx,Zbp.own _ _ _ _ () W y row h1 hg hr,h2,h3⟩) ?assign ?body ?done ?stop
  case assign =>
   rintro l pre ⟨r,q,tv,ws⟩ W K hI hV j;obtain ⟨g,ar,_⟩:=hV.1;dsimp only at ar;subst ar;gi_wp2
   have cN:Below W.heap.size W (W.alloc (.cells #[.string ⟨q.toArray⟩,.slice (some ⟨g,0,none⟩) ws.length ws.length] 268)):=(Below.refl _ _).alloc (Xa _) _;have co:=hI.2.2.1.size;refine j _ _ ((KeepsOthers.alloc _ _).from _) (cN.mono co) ?_ ((Zuw w0.heap.size).alloc (s:=(r,q,.slice (some ⟨g,0,none⟩) ws.length ws.length,ws)) _ hV) ⟨W.heap.size,Zbp.new W 268 [.string ⟨q.toArray⟩,.slice (some ⟨g,0,none⟩) ws.length ws.length],co,rfl⟩;exact (Zub _ _ _ w0.heap.size w (by omega) (Xa _) (by omega)).alloc (s:=pre) _ hI
  case body =>
   rintro l pre ⟨r,q,tv,ws⟩ a' W dB ac b0 ⟨Bx,H,dz,rfl⟩ dl;obtain ⟨⟨g,ar,A⟩,bx,bY,cK,ao,b3,cw⟩:=b0;dsimp only at H ar A bx bY cK ao b3 cw ⊢;subst ar;have cr:=H.cell 1 _ rfl;have dk:=H.cell 0 _ rfl;have aE:=Y4 ac;have bB:Y5 (Zkt W g ws):=Y4 ⟨A,bx⟩;have aX:=Y4 H;have cL:=Y4 ao;clear ac A bx H bo bu bA ao;gi_wp2
   obtain ⟨T0,bk⟩:=Xn (Zz [] (ZcV pre));have aQ:ZcV (pre++[(r,q,.slice (some ⟨g,0,none⟩) ws.length ws.length,ws)])=ZcV pre++Zac q ws r:=ZkR _ _;have aW:=Y4 aQ;have cn:=Y4 bk
   have ci:Y5 (∃F,Plc w.heap.size a.heap.size (Zz T0 (Zac q (ws.take 0) r)) F W):=Y4 (by
    obtain ⟨F,hF⟩:=aE.z.1;rw [<- bk];exact ⟨F,hF⟩)
   have c8:=Y4 aE.z.2.1;have bc:=Y4 aE.z.2.2.1;have bX:=Y4 aE.z.2.2.2;have cF:pre.length<=15:=by omega
   clear bk aQ cr
   gi_loopw [23] (fun iv wr=>∃k:Nat,k<=ws.length/\iv=.int .i64 k/\Y5 (∃F,Plc w.heap.size a.heap.size (Zz T0 (Zac q (ws.take k) r)) F wr)/\Y5 (Zbp wr (a.heap.size+1) 263 [.map (some a.heap.size)])/\Y5 (Zkt wr g ws)/\Y5 (Zbp wr Bx 268 [.string ⟨q.toArray⟩,.slice (some ⟨g,0,none⟩) ws.length ws.length])/\Y5 (KeepsFrom w0.heap.size W wr)/\Y5 (Below w.heap.size W wr)/\W.heap.size<=wr.heap.size) (fun iv _=>ws.length - (intOf iv).toNat)
   case atStart=>exact ⟨0,by omega,rfl,ci,c8,bB,aX,Y4 (KeepsFrom.refl _ _),Y4 (Below.refl _ _),Xa _⟩
   case round =>
    obtain ⟨k,hk,rfl,HF,HC,HT,aC,bp,HB,aS⟩:=hrel;clear ci bB aX
    by_cases Z:k<ws.length
    ·have q1:decide ((k:Int)<(ws.length:Int))=true:=Xt;have q2:decide (k<ws.length)=true:=Xt;obtain ⟨c1,c2,dr⟩:=HT.z.at_ Z;have cG:=cL.z ws[k] (XI Z);have az:=ZkS q Z r;generalize ws[k]=x at *;have aO:=Y4 az;have b5:=Y4 Z;have b1:=(aC.z.kep (Zu (fun _=>True) wr (.cells #[.string ⟨x.toArray⟩,.int .i64 (k:Int)] 134)) trivial).cell 0 _ rfl;have du:(⟨q.toArray⟩:ByteArray).size<=4096:=by rw [ZaX];exact bY
     have dn:(⟨x.toArray⟩:ByteArray).size<=4096:=by rw [ZaX];exact cG
     clear az Z aE;gi_wp2
     have a6:(⟨q.toArray⟩:ByteArray)++⟨#[58]⟩++⟨x.toArray⟩=⟨(q++58::x).toArray⟩:=by
      rw [show (⟨#[58]⟩:ByteArray)=⟨[58].toArray⟩ from rfl,ZfE,ZfE,Xk];rfl
     rw [a6];have bt:(q++58::x).length<=maxLen:=by rw [Xd,Xh];unfold maxLen;omega
     have az:=aO.z;generalize q++58::x=s at *;obtain ⟨F,hF⟩:=HF.z;obtain ⟨T,hT⟩:=Xn (Zz T0 (Zac q (ws.take k) r));have cA:Zz T0 (Zac q (ws.take (k+1)) r)=Zak T s (r+(k:Int)):=by rw [az,ZaT,Zvi,hT]
     rw [hT] at hF;have ca:=Y4 cA;obtain ⟨wd,ap⟩:=Xn ((wr.alloc (.cells #[.string ⟨x.toArray⟩,.int .i64 (k:Int)] 134)).drew);have U:Below wr.heap.size wr wd:=by rw [<- ap];exact ((Below.refl _ _).alloc (Xa _) _).drew
     have aK:Zbp wd wr.heap.size 134 [.string ⟨x.toArray⟩,.int .i64 (k:Int)]:=by rw [<- ap];exact (Zbp.new wr 134 [.string ⟨x.toArray⟩,.int .i64 (k:Int)]).kep (Zcg (fun _=>True) _) trivial
     have L:=hF.below U;have X:=HC.z.below U;have aG:=aC.z.below U;have aJ:=HT.z.kep (Za (fun _=>True) U) trivial;have aV:KeepsFrom w0.heap.size W wd:=by rw [<- ap];exact ((bp.z.trans ((KeepsOthers.alloc _ _).from _)).trans ((KeepsOthers.drew _).from _))
     have a4:Below w.heap.size W wd:=HB.z.trans (U.mono (Xy bc.z.size aS));have cX:W.heap.size<=wd.heap.size:=Xy aS U.size;have G:=L.found s;have cm:=Y4 (fun y (h:Plc w.heap.size a.heap.size T F y)=>h.look s bt);have da:prog.follows .mixedOrders=true:=by kernel_rfl
     have bU:∀y,Kep (fun b=>b≠a.heap.size/\(found F s).ownBlock≠some b) wd y->y.cell? ⟨a.heap.size+1,0,none⟩=some (.map (some a.heap.size)):=fun y hW=>(X.kep hW ⟨X.ne_map L.map,fun e=>X.not_ints (by decide) (G.2 _ e).2.2.1⟩).cell 0 _ rfl;have b8:∀y,Kep (fun b=>b≠a.heap.size/\(found F s).ownBlock≠some b) wd y->y.cell? ⟨wr.heap.size,1,none⟩=some (.int .i64 (k:Int)):=fun y hW=>(aK.kep hW ⟨aK.ne_map L.map,fun e=>aK.not_ints (by decide) (G.2 _ e).2.2.1⟩).cell 1 _ rfl
     have a2:∀y,Kep (fun b=>b≠a.heap.size/\(found F s).ownBlock≠some b) wd y->Zbp y (a.heap.size+1) 263 [.map (some a.heap.size)]/\Zkt y g ws/\Zbp y Bx 268 [.string ⟨q.toArray⟩,.slice (some ⟨g,0,none⟩) ws.length ws.length]/\KeepsFrom w0.heap.size W y/\Below w.heap.size W y/\W.heap.size<=y.heap.size:=fun y hW=>by
      refine ⟨X.kep hW ⟨X.ne_map L.map,fun e=>X.not_ints (by decide) (G.2 _ e).2.2.1⟩,aJ.kep hW ⟨fun e=>ZB0 aJ.1 (e▸L.map),fun e=>ZzE aJ.1 (G.2 _ e).2.2.1⟩,aG.kep hW ⟨aG.ne_map L.map,fun e=>aG.not_ints (by decide) (G.2 _ e).2.2.1⟩,aV.trans (Znp hW fun b hD o hn => ?_),a4.trans (hW.below (by omega) fun b o=>⟨by omega,fun e=>by have:=(G.2 _ e).1;omega⟩),Xy cX hW.size⟩
      by_cases e1:b=a.heap.size
      ·omega
      ·by_cases e2:(found F s).ownBlock=some b
       ·obtain ⟨ag,fr,V⟩:=(G.2 _ e2).2.2.1;exact ⟨_,V,rfl⟩
       ·exact absurd ⟨e1,e2⟩ hn
     have cW:=Y4 bU;have cS:=Y4 b8;have aP:=Y4 a2;have ah:=Y4 L;have aH:=Y4 G;have bM:w.heap.size<=wd.heap.size:=by have:=bc.z.size;omega
     have bb:T=Zz [] (ZcV pre++Zac q (ws.take k) r):=by rw [ZaT,cn.z,hT]
     have bw:(ZcV pre++Zac q (ws.take k) r).length<=100000:=by
      rw [Xd,show (Zac q (ws.take k) r).length=(ws.take k).length by simp [Zac],Xi];have:=bX.z;omega
     have aj:(Zm T s).length<=100000:=by rw [bb];exact Xy (Zgo _ _) bw
     have ae:T.length<=100000:=by rw [bb];exact Xy (Zct _ _) (by simpa using bw)
     have ck:=Y4 ae;have bD:=Y4 aj;clear az cA hF U aK L X aG aJ aV a4 G bU b8 a2 HF HC HT aC bp HB aO b1 c1 c2 a6 hT aj bb bw ae;refine RF.ZCo (T:=fun b=>b≠a.heap.size/\(found F s).ownBlock≠some b) (.take 0<|.take 1<|.take 2<|.take 3<|.take 5<|.take 6<|.take 7<|.take 8<|.both 4 9 (.alone 9<|.alone 10<|.alone 11<|.done) (.alone 4<|.alone 10<|.alone 11<|.done)) da (by kernel_rfl) rfl (by kernel_rfl) (fun ⟨_,_,h⟩=>h) (by kernel_rfl) (fun _ _ d _ _ h=>by cases d<;>exact h) ?_;simp only [RT.Zt,XU,XV,XS];rw [ap];clear ap;repeat (refine RT.take (by rfl) (by intro y hW;have g3:=cW.z y hW;have g7:=cS.z y hW;go_simp;with_reducible rfl) ?_;simp only [Act.put,Xm,Xo,Xl])
     have a5:IntKind.i64.wrap (r+(k:Int))=r+(k:Int):=by rw [IntWalk.i64_left];exact IntWalk.wrap64_in _ ⟨by omega,by omega⟩
     rw [a5];clear a5;refine RT.both ?_ ?_
     ·refine RT.step (by rfl) (fun K j => ?_);have bn:=cm.z wd ah.z;go_simp;refine j.z _ _ (Kep.refl _ _) ?_;clear j K bn;try simp only [Act.put,Xm,Xo,Xl]
      refine RT.alone (RT.step (by rfl) (fun K j => ?_));go_simp;refine j.z _ _ (Zu _ _ _) ?_;clear j K;try simp only [Act.put,Xm,Xo,Xl]
      refine RT.alone (RT.step (by rfl) (fun K j => ?_));have aj:=bD.z;refine Zd6 Zvw (S:=NoS) _ _ rfl (found F s) (Zm T s) wd [.int .i64 (r+(k:Int))] (r+(k:Int)) rfl rfl aH.z.1 rfl rfl (by unfold maxLen;omega) (by omega) ?_;intro v' w3 M E R N;refine j.z _ _ (N.mono fun b o=>o.2) ?_;clear j K;try simp only [Act.put,Xm,Xo,Xl]
      refine RT.alone (RT.step (by rfl) (fun K j => ?_));have ae:=ck.z;refine ZdQ underlying263 _ _ _ rfl a.heap.size T.length F rfl (ah.z.map.kep E fun e=>(aH.z.2 _ e).2.1 rfl) (by unfold maxLen;omega) s v' rfl rfl bt ?_;intro w4 aq C;refine j.z _ _ (C.mono fun b o=>o.1) ?_;clear j K aj ae;have u:=ah.z.put bM E (ZgJ.of M) R aq C;rw [<- ca.z] at u;have O:Kep (fun b=>b≠a.heap.size/\(found F s).ownBlock≠some b) wd w4:=(E.mono fun b o=>o.2).trans (C.mono fun b o=>o.1);obtain ⟨n1,n2,n3,n4,n5,n6⟩:=aP.z w4 O;have ai:Y5 (∃F,Plc w.heap.size a.heap.size (Zz T0 (Zac q (ws.take (k+1)) r)) F w4):=Y4 ⟨_,u⟩;have bi:=Y4 n1;have br:=Y4 n2;have bd:=Y4 n3;have bl:=Y4 n4;have bz:=Y4 n5;clear u O n1 n2 n3 n4 n5 aq C M E R N;refine RT.done ?_;gi_wp2
      have Z:=b5.z;go_roundw
      case rel=>exact ⟨k+1,by omega,by go_num,ai,bi,br,bd,bl,bz,n6⟩
      case measure=>simp [intOf];omega
     ·refine RT.step (by rfl) (fun K j => ?_);go_simp;refine j.z _ _ (Zu _ _ _) ?_;clear j K;try simp only [Act.put,Xm,Xo,Xl]
      refine RT.alone (RT.step (by rfl) (fun K j => ?_));have bn:=cm.z _ (ah.z.below ((Below.refl _ _).alloc (Xa _) (.cells #[.int .i64 (r+(k:Int))] 3)));go_simp;refine j.z _ _ (Kep.refl _ _) ?_;clear j K bn;try simp only [Act.put,Xm,Xo,Xl]
      refine RT.alone (RT.step (by rfl) (fun K j => ?_));have aj:=bD.z;refine Zd6 Zvw (S:=NoS) _ _ rfl (found F s) (Zm T s) wd [.int .i64 (r+(k:Int))] (r+(k:Int)) rfl rfl aH.z.1 rfl rfl (by unfold maxLen;omega) (by omega) ?_;intro v' w3 M E R N;refine j.z _ _ (N.mono fun b o=>o.2) ?_;clear j K;try simp only [Act.put,Xm,Xo,Xl]
      refine RT.alone (RT.step (by rfl) (fun K j => ?_));have ae:=ck.z;refine ZdQ underlying263 _ _ _ rfl a.heap.size T.length F rfl (ah.z.map.kep E fun e=>(aH.z.2 _ e).2.1 rfl) (by unfold maxLen;omega) s v' rfl rfl bt ?_;intro w4 aq C;refine j.z _ _ (C.mono fun b o=>o.1) ?_;clear j K aj ae;have u:=ah.z.put bM E (ZgJ.of M) R aq C;rw [<- ca.z] at u;have O:Kep (fun b=>b≠a.heap.size/\(found F s).ownBlock≠some b) wd w4:=(E.mono fun b o=>o.2).trans (C.mono fun b o=>o.1);obtain ⟨n1,n2,n3,n4,n5,n6⟩:=aP.z w4 O;have ai:Y5 (∃F,Plc w.heap.size a.heap.size (Zz T0 (Zac q (ws.take (k+1)) r)) F w4):=Y4 ⟨_,u⟩;have bi:=Y4 n1;have br:=Y4 n2;have bd:=Y4 n3;have bl:=Y4 n4;have bz:=Y4 n5;clear u O n1 n2 n3 n4 n5 aq C M E R N;refine RT.done ?_;gi_wp2
      have Z:=b5.z;go_roundw
      case rel=>exact ⟨k+1,by omega,by go_num,ai,bi,br,bd,bl,bz,n6⟩
      case measure=>simp [intOf];omega
    ·obtain rfl:k=ws.length:=by omega
     have q1:decide ((ws.length:Int)<(ws.length:Int))=false:=by simp
     have q2:decide (ws.length<ws.length)=false:=by simp
     gi_wp2
     refine ⟨bp.z,HB.z,?_,HC.z,bc.z.trans HB.z,?_⟩
     ·rw [aW.z,ZaT,cn.z];have:=HF.z;rw [XB] at this;exact this
     ·rw [aW.z,Xd,Xd,Xai,show (Zac q ws r).length=ws.length by simp [Zac]];have:=bX.z;omega
  case stop =>
   rintro D pre W hD _ h _;exact h.elim
  case done =>
   rintro D xs W hD hT ac j;obtain ⟨⟨F,hF⟩,hC,hB,hN⟩:=ac;have bf:Zz [] (ZcV xs)=Zb6 fs:=by rw [hT.told,XB];rfl
   rw [bf] at hF
   have dA:(Zb6 fs).length<=100000:=by
    rw [<- bf];have h1:=Zct (ZcV xs) ([]:List Trm);have h2:=hT.len;simp only [Xv,XL] at h1;omega
   generalize Zb6 fs=T at *;have HF:=Y4 hF;have HB:=Y4 hB;have HK:=Y4 j;have cC:=hC.cell 0 _ rfl;have dq:=fun ty=>Zb9.len underlying263 hF.map ty;clear hF hB j hT bf hN bo bu bA;simp only [Exit.then]
   apply_assumption
   refine wpIn_wide.2 ?_;obtain ⟨iT,bO,a3,aZ,aT⟩:=info_parts (show (prog.info? 204).map (fun i=>(i.zero,i.size,i.bytes))=some (some (.agg #[.string ⟨#[]⟩,.slice none 0 0]),2,40) by kernel_rfl);have a1:=HB.z.size;have HC:=Y4 hC;clear hC;go_wp2_with (first|(at_make;refine wpList_make_own W rfl _ _ 202 rfl w.heap.size 204 iT (.agg #[.string ⟨#[]⟩,.slice none 0 0]) 2 underlying202 bO a3 aZ .i64 .i64 _ T.length rfl rfl rfl (by rw [aT];omega) (by unfold maxLen;omega) a1 ?_;intro w3 M R;have ax:=(Below.refl W.heap.size W).grown R (Xa _) (fun k h=>by cases h);have aM:=Y4 (HF.z.below ax);have aN:=Y4 (HB.z.trans (ax.mono a1));have a0:=Y4 ax;have di:=(HC.z.below ax).cell 0 _ rfl;have bQ:=Y4 M;clear M R ax)|(at_range;go_loud (refine Zkq underlying263 rfl _ rfl a.heap.size _ _ rfl aM.z.map ?_;intro w4 b9 aU J df)))
   have aI:w3.heap[D]? = some (.deferred (some [])):=by
    have hl:=(Xq.1 HK.z).1;exact (a0.z.block D hl).trans HK.z
   have ce:w4.heap[D]? = some (.deferred (some [])):=(J.block D (Xq.1 aI).1).trans aI;have dy:D<w3.heap.size:=(Xq.1 aI).1;have bP:=Y4 (ZsW (Zdc (B:=0) bQ.z J));have ai:=Y4 (aM.z.below J);have bI:=Y4 (aN.z.trans (J.mono aN.z.size));have cx:=Y4 aU;have bV:=Y4 ce;have cb:=Y4 (Coll.start F);have dv:w.heap.size<=w3.heap.size:=aN.z.size;have dj:a.heap.size<w3.heap.size:=aM.z.map.lt;clear aI ce J df aU bQ aM aN a0 di HF HC HB HK a3 aZ aT bO
   go_frame
   go_loopw [9] (fun v wr=>∃(d:List ZcX) (left:Xu->Bool) (cnt g cp:Nat),v=.slice (some ⟨g,0,none⟩) d.length cp/\Y5 (ZbB tcC 204 w.heap.size wr (.slice (some ⟨g,0,none⟩) d.length cp) d)/\Y5 (Coll F left d)/\Y5 (Zd8 wr a.heap.size w3.heap.size T.length F left cnt)/\Y5 (Plc w.heap.size a.heap.size T F wr)/\Y5 (Below w.heap.size w wr)/\Y5 (wr.heap[D]? = some (.deferred (some [])))) (fun _ wr=>wr.rangeLeft a.heap.size w3.heap.size)
   case atStart=>exact ⟨[],_,b9,_,_,rfl,bP,cb,cx,ai,bI,bV⟩
   case round =>
    obtain ⟨d,left,cnt,g,cp,rfl,HO,bq,av,HF,HB,HD⟩:=hrel;clear bP cb cx ai bI bV;have dx:=Zxo HF.z bq.z;go_wp2_with (at_next;go_loud (refine Zla rfl _ rfl a.heap.size w3.heap.size _ _ left cnt rfl av.z ?_ ?_))
    ·intro bE;obtain ⟨ad,cq,ab,cu,bT,b6,A⟩:=ZmF HO.z;have ay:=Zzz g cp d wr ad cq ab (by omega);have HS:=Y4 ay;have bv:=Y4 A;have dh:=Y4 bE;clear ad cq ay A bE;go_wp2_with fail;refine HS.z.mono ?_;rintro e w6 ⟨rfl,d',bF,bG,cy,cD⟩;have c4:=Y4 bF;have c9:=Y4 bG;have bN:=Y4 cy;have aw:=Y4 cD;clear bF bG cy cD HS;go_wp2_with fail
     have bj:D≠g:=fun e=>by
      obtain ⟨ag,fr,V⟩:=bv.z;have:=HD.z;rw [e,V] at this;cases this
     have bR:w6.heap[D]? = some (.deferred (some [])):=(aw.z.block D (Xq.1 HD.z).1 bj).trans HD.z;have cz:=grownBy_putObj' w6 D (.deferred none);have aL:Kep (fun k=>k≠D) w6 (w6.putObj D (.deferred none)):=ZO cz fun k hk e=>e (XW hk).symm;have cQ:=HF.z.keep aw.z (fun e=>ZoV bv.z (e▸HF.z.map)) fun b o e=>Znf bv.z (e▸o)
     have cI:=cQ.keep aL (by omega) fun b o e=>by
      obtain ⟨ag,fr,V⟩:=o;rw [e,bR] at V;cases V
     have bh:g<w6.heap.size:=XJ ab aw.z.size;have cV:Zih (w6.putObj D (.deferred none)) g d':=fun i hi=>⟨(aL.cell bh (fun e=>bj e.symm) _).trans (bN.z i hi).1,(aL.cell bh (fun e=>bj e.symm) _).trans (bN.z i hi).2⟩;have cj:=Zxp cI bq.z dh.z c4.z c9.z cV (XJ bh aL.size) cu bT b6
     have cJ:Below w.heap.size w (w6.putObj D (.deferred none)):=(HB.z.trans (aw.z.below HB.z.size fun k hk e=>by omega)).grown cz (Xy HB.z.size aw.z.size) fun k hk=>by
      have:=XW hk;omega
     refine ⟨by simp,.inl ⟨_,_,rfl,run_takeDeferred bR,?_⟩⟩;refine ⟨.slice (some ⟨g,0,none⟩) d.length cp,?_,_,rfl,cj,cJ⟩;simp [results,Tryz.f125,go_sem]
    ·intro n v w5 cE hn hl bg am aR af cB dt;obtain ⟨hz,ch,_⟩:=HF.z.own n v bg;obtain ⟨pv,cv,rfl⟩:=hz.shape;have au:(Value.slice pv (Zm T n).length cv).oneCell'=true:=rfl;have aO:=Y4 (bq.z.next au hl bg);have b4:∀x,(Value.slice (some ⟨g,0,none⟩) d.length cp).ownBlock=some x->x=g:=fun x hx=>(XW hx).symm;obtain ⟨_,_,ab,_,_,b6,A⟩:=ZmF HO.z;have ba:g≠w3.heap.size:=fun e=>Ztw A (e▸av.z)
     have a7:ZhB w5 g:=by
      obtain ⟨ag,fr,V⟩:=A;exact ⟨ag,fr,(af.block g ab ba).trans V⟩
     have aB:=Y4 a7;have a8:=av.z.lt;have cU:=Y4 (ZyZ HO.z af fun x hx=>by rw [b4 x hx];exact ba)
     have bW:=HF.z.keep af (by omega) fun b o e=>by
      obtain ⟨ag,fr,V⟩:=o;subst e;obtain ⟨Dd,lf,hr,_⟩:=av.z;obtain ⟨es,dg,cO,dm,c0,g1,g2,g3,g4,g5,rest⟩:=hr;rw [V] at g5;cases g5
     have cl:=Y4 bW;have bZ:=Y4 (HB.z.trans (af.below HB.z.size fun k hk e=>by omega));have a9:=Y4 ((af.block D (Xq.1 HD.z).1 (by omega)).trans HD.z);have bH:=Y4 am;have dC:=Y4 am.left_eq;have de:=Y4 av.z.left_eq;have cM:=Y4 aR;have c7:=bZ.z.size;clear am aR bg af hz ch A a7 a8 bW hl cB;go_wp2_with (at_builtin;go_loud (refine ZgI ZDa rfl _ _ rfl w.heap.size _ d w5 (ZgM (n,⟨.slice pv (Zm T n).length cv,au⟩)) (n,⟨.slice pv (Zm T n).length cv,au⟩) rfl rfl cU.z rfl rfl (by unfold maxLen;omega) (by omega) c7 ?_;intro v6 w6 bm cd aa;obtain ⟨g6,cH,rfl⟩:=ZvS bm (by simp);have cT:=Y4 bm;have bJ:=Y4 cd;have bK:=Y4 aa;clear bm cd aa))
     have aa:Kep (fun k=>k≠g) w5 w6:=(Zu _ _ _).trans (bK.z.mono fun k hk e=>hk (b4 k e));have a8:=bH.z.lt;have aY:w3.heap.size≠g:=fun e=>ba e.symm;have be:a.heap.size≠g:=fun e=>ZoV aB.z (e▸cl.z.map);have b2:=Y4 (bH.z.kep aa be aY);have c6:=Y4 (cl.z.keep aa be fun b o e=>Znf aB.z (e▸o));have cZ:=Y4 (bZ.z.trans bJ.z)
     have dd:=Y4 ((aa.block D (Xq.1 a9.z).1 (fun e=>by
      obtain ⟨ag,fr,V⟩:=aB.z;have:=a9.z;rw [e,V] at this;cases this)).trans a9.z)
     clear aa a8 aY be;go_wp2_with fail;go_roundw
     case rel=>exact ⟨_,_,cE,g6,cH,(by rw [Xd];rfl),cT,aO,b2,c6,cZ,dd⟩
     case measure =>
      rw [de.z,b2.z.left_eq];exact cM.z
 ·have e0:Z1 (z,fs)=[]:=by unfold Z1;rw [Xe h0]
  rw [e0];obtain ⟨c,V⟩:=Xn (ZH (z,fs));rw [V] at aA h0;have q1:(c != 0)=true:=by simp [h0]
  clear e0 V h0 hr;go_enter func125,ntmps125;go_wp2_with fail;refine aA.z.mono ?_;rintro e a ⟨rfl,I⟩;have c5:=Y4 (grow b7.z I);clear I;go_wp2_with fail;go_ret;exact ⟨_,rfl,ZB.nil_ _ _,c5.z⟩
end EV
namespace SG
open RowKit MM EM SM
open EV (ZD Zae Z2 Zcq Znh ZiX Zct Zgo)
open RM (Zai Zhk Zb3 Zib)
open GM (ZbV sized evs Zp)
def ZdZ (k:Nat) (T:List Trm):List (Xu×Zdm):=T.map fun t=>(t.1,((k:Int),t.2))
theorem ZsZ (k:Nat) {T:List Trm} {j:Nat} (a:j<T.length):ZdZ k (T.take (j+1))=ZdZ k (T.take j)++[(T[j].1,((k:Int),T[j].2))]:=by
 unfold ZdZ;rw [XG a,XM];rfl
theorem Zs1 (tss:List (List Trm)) (k:Nat):(Zai 0 (tss.take k)).length<=(Zai 0 tss).length:=by
 have h:=Zb3 (tss.take k) (tss.drop k) 0;rw [X8] at h;rw [h,Xd];omega
theorem Zq0 {B j:Nat} {X:Nat->Prop} {T:List (EM.Tr Zdm)} {F:Xu->Option Value} {a f:World} {s:Xu} {v:Value} {ps:List Zdm} (h:Tab B j X T F a) (i:Zbj Zdp 125 (fun b=>X b/\b<a.heap.size) f v ps)
  (l:∀g,v.ownBlock=some g->(found F s).ownBlock=some g\/a.heap.size<=g):Zbj Zdp 125 X f v ps :=
 Zbj.weak i (fun _ _ k=>k.1) fun g c e=>by
  rcases l g c with d|d
  ·exact (Zbj.lt (h.found s).1 g d).2 e
  ·have:=(h.hi g e).1;omega
def ZpS (l:List SM.Zq) (w:World) (e:Ending) (w':World):Prop:=∃a X F,e=.returned (.tuple #[.map (some a),.bool true])/\Tab w.heap.size a X (Zp l) F w'/\Below w.heap.size w w'
theorem Zza (v:Value) (l:List SM.Zq) (w:World) (hv:ZF ZD w v l) (hS:isS l=true) (aS:ZbV l):Calls prog 75 #[v] w (ZpS l w):=by
 obtain ⟨p,bp,rfl,bj,bb,_⟩:=hv.shape;unfold maxLen at bb;have hz:=sized hS aS;have aE:=hz.pairs;have bk:=hz.rows;obtain ⟨tss,r⟩:=Xn ((evs l).map Z1);have J:tss.length=l.length:=by rw [<- r];unfold evs;simp
 have be:=Y4 (fun (k:Nat) (hk:k<l.length)=>(show ∃a8:k<tss.length,tss[k]=Z1 l[k].2 by subst r;exact ⟨by omega,by unfold evs;simp⟩));rw [r] at aE;have aP:=Y4 (fun k=>Xy (Zs1 tss k) aE);have ao:Zp l=Zz [] (Zai 0 (tss.take l.length)):=by rw [<- J,XB,<- r];rfl
 have aQ:=Y4 ao;have HV:=Y4 hv.bel;obtain ⟨a,Z⟩:=Xn w.heap.size;obtain ⟨wm,ac⟩:=Xn (w.alloc (.map #[] 0));have av:Below w.heap.size w wm:=by rw [<- ac];exact (Below.refl _ _).alloc (Xa _) _
 have aw:Tab w.heap.size w.heap.size (fun _=>False) [] (fun _=>Option.none) wm:=by rw [<- ac];exact Tab.made w _ (Xa _)
 have H0:Y5 (∃X F,Tab a a X (Zz [] (Zai 0 (tss.take 0))) F wm):=Y4 ⟨_,_,by rw [Z] at aw;exact aw⟩;have aK:Y5 (Below a w wm):=Y4 (by rw [Z] at av;exact av);have az:=Y4 ac;have bq:=@run_makeMap prog;rw [Z] at HV;unfold ZpS;rw [Z];have aa:=Y4 Z;clear hv hS aS hz ao r ac av aw aE;go_enter func75,ntmps75;go_wp2_with (rw [az.z])
 have bh:a<wm.heap.size:=by
  have:=az.z;rw [<- this,<- aa.z];simp
 go_loopw [2,11] (fun mv iv wr=>mv=.map (some a)/\∃k:Nat,k<=l.length/\iv=.int .i64 k/\Y5 (∃X F,Tab a a X (Zz [] (Zai 0 (tss.take k))) F wr)/\Y5 (Below a w wr)) (fun _ iv _=>l.length - (intOf iv).toNat)
 case atStart=>exact ⟨by go_simp,0,by omega,rfl,H0,aK⟩
 case round =>
  obtain ⟨rfl,k,hk,rfl,HF,HB⟩:=hrel;clear H0 aK az bh
  by_cases E:k<l.length
  ·have q1:decide ((k:Int)<(l.length:Int))=true:=Xt;have q2:decide (k<l.length)=true:=Xt;have q3:(k:Int)<(l.length:Int):=by omega
   have Y:a<=wr.heap.size:=by have:=HB.z.size;have:=aa.z;omega
   obtain ⟨b,off,vf,rfl,bn,_,c1,c2,c3,hf⟩:=Z2 (ZB.keep HV.z (Ziz HB.z) fun _ _ h=>h) E;obtain ⟨a8,W⟩:=be.z k E;obtain ⟨⟨sq,⟨t,fs⟩⟩,hd⟩:∃d,l[k]=d:=⟨_,rfl⟩;rw [hd] at c1 c2 hf W;dsimp only at c1 c2 hf W;obtain ⟨pf,cf,rfl,_⟩:=hf.shape;obtain ⟨w1,aI⟩:=Xn (wr.alloc (.cells #[.int .i64 sq,.int .i64 t,.slice pf fs.length cf] 59));have af:Below wr.heap.size wr w1:=by rw [<- aI];exact (Below.refl _ _).alloc (Xa _) _
   have HC:=Y4 (EV.Zwp t (.slice pf fs.length cf) fs w1 (hf.any.below af));obtain ⟨T,hT⟩:=Xn (Z1 (t,fs));have bd:=Y4 (fun (x:Trm) (hx:x∈T)=>(RM.Znc (e:=(t,fs)) (by rw [hT];exact hx)).2);rw [hT] at HC W;have ag:Zai 0 (tss.take (k+1))=Zai 0 (tss.take k)++ZdZ k T:=by rw [Zhk a8,W];rfl
   have ah:=aP.z (k+1);rw [ag,Xd] at ah;obtain ⟨X,F0,a6⟩:=HF.z;have ap:=a6.below af;obtain ⟨R0,a0⟩:=Xn (Zai 0 (tss.take k));rw [a0] at ap ag ah;have ba:T.length=(ZdZ k T).length:=by unfold ZdZ;simp
   have bi:T.length<=200000:=by omega
   have a5:=Y4 ap;have aB:=Y4 (HB.z.trans (af.mono Y));have aV:=Y4 aI;have bf:=Y4 ag;have a9:=Y4 ah;have bc:=Y4 E;have bo:=Y4 Y;clear af aI hf hd hT W ag ah a6 ap a0 HF HB E Y ba;go_wp2_with fail;rw [aV.z];refine HC.z.mono ?_;rintro e w2 ⟨u,rfl,hu,aq⟩;obtain ⟨pu,cu,rfl,br,aN,_⟩:=ZB.shape hu;unfold maxLen at aN;have hX:=a5.z.more aq;obtain ⟨D,ar⟩:∃D:Nat->Prop,(fun b=>X b\/(w1.heap.size<=b/\b<w2.heap.size))=D:=⟨_,rfl⟩;have aX:ZB Zcq D w2 (.slice pu T.length cu) T:=ZB.weak hu fun b i h=>by rw [<- ar];exact .inr ⟨h,i⟩
   rw [ar] at hX;have H1:Y5 (∃F,Tab a a D (Zz [] (R0++ZdZ k (T.take 0))) F w2):=Y4 ⟨F0,by rw [show ZdZ k (T.take 0)=[] from rfl,XH];exact hX⟩;have HU:=Y4 aX;have a2:=Y4 (aB.z.trans (aq.mono (by have:=aB.z.size;have:=aa.z;omega)));clear hu aq hX aX ar HC c1 c2 c3 a5 aB aV;go_wp2_with fail
   go_loopw [20] (fun jv wj=>∃j:Nat,j<=T.length/\jv=.int .i64 j/\Y5 (∃F,Tab a a D (Zz [] (R0++ZdZ k (T.take j))) F wj)/\Y5 (ZB Zcq D wj (.slice pu T.length cu) T)/\Y5 (Below a w wj)) (fun jv _=>T.length - (intOf jv).toNat)
   case atStart=>exact ⟨0,by omega,rfl,H1,HU,a2⟩
   case round =>
    obtain ⟨j,hj,rfl,HF,aj,HB⟩:=hrel;clear H1 HU a2
    by_cases A:j<T.length
    ·have r1:decide ((j:Int)<(T.length:Int))=true:=Xt;have r2:decide (j<T.length)=true:=Xt;have r3:(j:Int)<(T.length:Int):=by omega
     obtain ⟨g,o,pv,rfl,bm,bl,d0,d1,L⟩:=Znh aj.z A;have ai:=ZsZ k A;have Y:a<=wr.heap.size:=by have:=HB.z.size;have:=aa.z;omega
     obtain ⟨⟨s,M⟩,aC⟩:∃x,T[j]=x:=⟨_,rfl⟩;rw [aC] at d0 L ai;dsimp only at d0 L ai;obtain ⟨pz,cz,rfl,_⟩:=L.shape
     have aG:s.length<=maxLen:=by
      have:=bd.z T[j] (XI A);rw [aC] at this;dsimp only at this;unfold maxLen;omega
     obtain ⟨F,U⟩:=HF.z;obtain ⟨R,hR⟩:=Xn (Zz [] (R0++ZdZ k (T.take j)));have aT:Zz [] (R0++ZdZ k (T.take (j+1)))=Zak R s ((k:Int),M):=by rw [ai,<- Xk,ZaT,hR];rfl
     have aH:(R0++ZdZ k (T.take j)).length<=200000:=by
      have:=a9.z;have e:(ZdZ k (T.take j)).length<=(ZdZ k T).length:=by unfold ZdZ;rw [XF,XF,Xi];omega
      rw [Xd];omega
     have G:(Zm R s).length<=200000:=by rw [<- hR];exact Xy (Zgo _ _) aH
     have am:R.length<=200000:=by rw [<- hR];exact Xy (Zct _ _) (by simpa using aH)
     rw [hR] at U;obtain ⟨I,ad⟩:=Xn ((wr.alloc (.cells #[.string ⟨s.toArray⟩,.slice pz M.length cz] 204)).drew);have B:Below wr.heap.size wr I:=by rw [<- ad];exact ((Below.refl _ _).alloc (Xa _) _).drew
     have aW:Two I wr.heap.size 204 (.string ⟨s.toArray⟩) (.slice pz M.length cz):=by rw [<- ad];exact (ZgA wr 204 _ _).keep (Zcg (fun _=>True) _) trivial
     have ab:=U.below B;have ak:=ab.found s;have aJ:=U.found s;have a7:=U.map.lt;have aR:ZB Zcq D I (.slice (some ⟨g,o,none⟩) T.length cu) T:=ZB.keep aj.z (Za _ B) fun _ _ h=>h;have aU:ZB Zbk D I (.slice pz M.length cz) M:=ZB.keep L (Za _ B) fun _ _ h=>h;have bg:prog.follows .mixedOrders=true:=by kernel_rfl
     have hG:∀H,Kep (fun b=>b≠a/\(found F s).ownBlock≠some b) I H->H.cell? ⟨wr.heap.size,0,none⟩=some (.string ⟨s.toArray⟩)/\H.cell? ⟨wr.heap.size,1,none⟩=some (.slice pz M.length cz):=fun H hW =>
      have h:=aW.keep hW ⟨by omega,fun e=>by have:=(aJ.2 _ e).2.2;omega⟩
      ⟨h.c0,h.c1⟩
     have an:∀H,Kep (fun b=>b≠a/\(found F s).ownBlock≠some b) I H->ZB Zcq D H (.slice (some ⟨g,o,none⟩) T.length cu) T/\Below a w H:=fun H hW =>
      ⟨ZB.keep aR (hW.mono' fun b _ i=>⟨(ab.hi b i).2,fun e=>(Zbj.lt ak.1 b e).2 i⟩) fun _ _ h=>h,
       (HB.z.trans (B.mono Y)).trans (hW.below (by have:=B.size;omega) fun b i=>⟨by omega,fun e=>by have:=(ak.2 _ e).1;omega⟩)⟩
     have HG:=Y4 hG;have al:=Y4 an;have q:=Y4 ab;have ae:=Y4 ak;have aM:=Y4 aT;have a1:=Y4 aU;have aY:=Y4 A;have a4:=Y4 (fun H (h:Tab a a D R F H)=>h.look s aG);have a3:=Y4 am;have aL:=Y4 G;have aO:a<=I.heap.size:=by have:=B.size;omega
     clear ai aC L aT aH G am U B aW ab ak aJ a7 aR aU hG an hR HF aj HB A;go_wp2_with fail;refine RT.Zal (T:=fun b=>b≠a/\(found F s).ownBlock≠some b) (.take 0<|.take 1<|.take 2<|.take 3<|.take 4<|.take 5<|.take 7<|.take 8<|.take 9<|.take 10<|.both 6 11 (.alone 11<|.alone 12<|.alone 13<|.done) (.alone 6<|.alone 12<|.alone 13<|.done)) bg (by kernel_rfl) rfl (by kernel_rfl) (fun _ _ d _ _ h=>by cases d<;>exact h) ?_;simp only [RT.Zt,XU,XV,XS];rw [ad];clear ad;repeat (refine RT.take (by rfl) (by intro H hW;obtain ⟨g3,g7⟩:=HG.z H hW;go_simp;with_reducible rfl) ?_;simp only [Act.put,Xm,Xo,Xl])
     refine RT.both ?_ ?_
     ·refine RT.step (by rfl) (fun K c => ?_);have ax:=a4.z I q.z;go_simp;refine c.z _ _ (Kep.refl _ _) ?_;clear c K ax;try simp only [Act.put,Xm,Xo,Xl]
      refine RT.alone (RT.step (by rfl) (fun K c => ?_));go_simp;refine c.z _ _ (Zu _ _ _) ?_;clear c K;try simp only [Act.put,Xm,Xo,Xl]
      refine RT.alone (RT.step (by rfl) (fun K c => ?_));have G:=aL.z;refine Zd6 Zy5 (S:=D) _ _ rfl (found F s) (Zm R s) I [.int .i64 (k:Int),.slice pz M.length cz] ((k:Int),M) rfl rfl ae.z.1 (Zll.2 ⟨_,rfl,a1.z⟩) rfl (by unfold maxLen;omega) (by omega) ?_;intro v' w3 V n C y;refine c.z _ _ (y.mono fun b i=>i.2) ?_;clear c K;try simp only [Act.put,Xm,Xo,Xl]
      refine RT.alone (RT.step (by rfl) (fun K c => ?_));have J:=a3.z;refine ZdQ underlying136 _ _ _ rfl a R.length F rfl (q.z.map.kep n fun e=>(ae.z.2 _ e).2.1 rfl) (by unfold maxLen;omega) s v' rfl rfl aG ?_;intro w4 O m;refine c.z _ _ (m.mono fun b i=>i.1) ?_;clear c K G J;have f:=q.z.put aO n (Zq0 q.z V C) C O m;rw [<- aM.z] at f;have z:Kep (fun b=>b≠a/\(found F s).ownBlock≠some b) I w4:=(n.mono fun b i=>i.2).trans (m.mono fun b i=>i.1);obtain ⟨n1,n2⟩:=al.z w4 z;have aA:Y5 (∃F,Tab a a D (Zz [] (R0++ZdZ k (T.take (j+1)))) F w4):=Y4 ⟨_,f⟩;have au:=Y4 n1;have aD:=Y4 n2;clear f z n1 n2 O m V n C y;refine RT.done ?_;go_wp2_with fail;have A:=aY.z;go_roundw
      case rel=>exact ⟨j+1,by omega,by go_num,aA,au,aD⟩
      case measure=>simp [intOf];omega
     ·refine RT.step (by rfl) (fun K c => ?_);go_simp;refine c.z _ _ (Zu _ _ _) ?_;clear c K;try simp only [Act.put,Xm,Xo,Xl]
      refine RT.alone (RT.step (by rfl) (fun K c => ?_));have ax:=a4.z _ (q.z.below ((Below.refl _ _).alloc (Xa _) (.cells #[.int .i64 (k:Int),.slice pz M.length cz] 125)));go_simp;refine c.z _ _ (Kep.refl _ _) ?_;clear c K ax;try simp only [Act.put,Xm,Xo,Xl]
      refine RT.alone (RT.step (by rfl) (fun K c => ?_));have G:=aL.z;refine Zd6 Zy5 (S:=D) _ _ rfl (found F s) (Zm R s) I [.int .i64 (k:Int),.slice pz M.length cz] ((k:Int),M) rfl rfl ae.z.1 (Zll.2 ⟨_,rfl,a1.z⟩) rfl (by unfold maxLen;omega) (by omega) ?_;intro v' w3 V n C y;refine c.z _ _ (y.mono fun b i=>i.2) ?_;clear c K;try simp only [Act.put,Xm,Xo,Xl]
      refine RT.alone (RT.step (by rfl) (fun K c => ?_));have J:=a3.z;refine ZdQ underlying136 _ _ _ rfl a R.length F rfl (q.z.map.kep n fun e=>(ae.z.2 _ e).2.1 rfl) (by unfold maxLen;omega) s v' rfl rfl aG ?_;intro w4 O m;refine c.z _ _ (m.mono fun b i=>i.1) ?_;clear c K G J;have f:=q.z.put aO n (Zq0 q.z V C) C O m;rw [<- aM.z] at f;have z:Kep (fun b=>b≠a/\(found F s).ownBlock≠some b) I w4:=(n.mono fun b i=>i.2).trans (m.mono fun b i=>i.1);obtain ⟨n1,n2⟩:=al.z w4 z;have aA:Y5 (∃F,Tab a a D (Zz [] (R0++ZdZ k (T.take (j+1)))) F w4):=Y4 ⟨_,f⟩;have au:=Y4 n1;have aD:=Y4 n2;clear f z n1 n2 O m V n C y;refine RT.done ?_;go_wp2_with fail;have A:=aY.z;go_roundw
      case rel=>exact ⟨j+1,by omega,by go_num,aA,au,aD⟩
      case measure=>simp [intOf];omega
    ·obtain rfl:j=T.length:=by omega
     have r1:decide ((T.length:Int)<(T.length:Int))=false:=by simp
     have r2:decide (T.length<T.length)=false:=by simp
     have hf:=HF.z;rw [XB,<- bf.z] at hf;obtain ⟨F,U⟩:=hf;have aF:=Zct (Zai 0 (tss.take (k+1))) ([]:List (EM.Tr Zdm));have aZ:=aP.z (k+1);rw [Xv,XL] at aF;have hL:=fun ty=>U.len ty;obtain ⟨N,hN⟩:=Xn ((Zz [] (Zai 0 (tss.take (k+1)))).length);rw [hN] at aF;simp only [hN] at hL;have s1:decide ((N:Int)>262144)=false:=Xf;have s2:decide (262144<N)=false:=Xf;have ay:Y5 (∃X F,Tab a a X (Zz [] (Zai 0 (tss.take (k+1)))) F wr):=Y4 ⟨_,_,U⟩;clear U hN aF aZ HF aj A;go_wp2_with fail;have E:=bc.z;go_roundw
     case rel=>exact ⟨rfl,k+1,by omega,by go_num,ay,HB⟩
     case measure=>simp [intOf];omega
  ·obtain rfl:k=l.length:=by omega
   have q1:decide ((l.length:Int)<(l.length:Int))=false:=by simp
   have q2:decide (l.length<l.length)=false:=by simp
   have hf:=HF.z;rw [<- aQ.z] at hf;have ay:=Y4 hf;clear HF hf E;go_wp2_with fail;go_ret2;obtain ⟨X,F,U⟩:=ay.z;exact ⟨_,X,F,rfl,U,HB.z⟩
