import Derived.Sort.MapsRangeIn
import Derived.Test.YtmomfobdpfajbaaGreatZA6
import Derived.Test.YtmomfobdpfajbaaGreatZA15
set_option maxRecDepth 100000
set_option maxHeartbeats 0
set_option linter.unusedVariables false
set_option linter.unusedSimpArgs false
namespace Go.Proofs.YtmomfobdpfajbaaGreat
open Tryz
namespace SM
open RowKit MM Go.Maps
variable {w w':World} {mb m r cnt:Nat} {S:Nat->Prop} {T E:TypeId} {n:Xu} {o:Oper} {a:Act} {ops:Array Oper} {rest:List Oper}
abbrev R0:Value->Option (DataW Value×List MemPlace):=fun v=>some (.held v,[])
theorem ZfV:Keyed prog 9:=string_keyed underlying9
def Zb9 (w:World) (mb m:Nat) (F:Xu->Option Value):Prop :=
 ∃D:DataW Value,w.ownsMap prog 9 R0 mb m D/\Maps.size D=m/\∀n,Maps.has D (.string n)=(F n).isSome/\∀v,F n=some v->∀z,D.atKey (.string n) z=.held v
theorem ZC3 (n:Xu) (b:n.length<=maxLen):keyOf prog 9 (.string ⟨n.toArray⟩)=some (.string n):=Go.WideMaps.keyOf_string_mk (s:=⟨n.toArray⟩) underlying9 (by rw [Lib.size_eq];exact b)
theorem Zb9.lt {F:Xu->Option Value} (h:Zb9 w mb m F):mb<w.heap.size:=by
 obtain ⟨D,b,_⟩:=h;exact b.lt
theorem Zrc {R:Value->Option (DataW Value×List MemPlace)} {D:DataW Value} (h:w.ownsMap prog 9 R mb m D) (d:Kep S w w') (e:S mb):w'.ownsMap prog 9 R mb m D:=by
 have c:=h.lt;obtain ⟨es,b,g,F,hs,f⟩:=h;exact ⟨es,b,(d.block mb c e).trans g,F,hs,f⟩
theorem Zb9.kep {F:Xu->Option Value} (h:Zb9 w mb m F) (b:Kep S w w') (d:S mb):Zb9 w' mb m F:=by
 obtain ⟨D,c,e⟩:=h;exact ⟨D,Zrc c b d,e⟩
theorem Zb9.made (w:World):Zb9 (w.alloc (.map #[] 0)) w.heap.size 0 (fun _=>none) :=
 ⟨.map [],World.ownsMap_made _ _ _ _,rfl,fun n=>⟨rfl,fun v h=>by cases h⟩⟩
theorem Zb9.obj {F:Xu->Option Value} (h:Zb9 w mb m F):∃es c,w.heap[mb]? = some (.map es c):=by
 obtain ⟨D,⟨es,c,b,_⟩,_⟩:=h;exact ⟨es,c,b⟩
theorem Zb9.look (f:prog.underlying T=some (.map 9 E)) {Z:Value} (e:∀w,(zeroValue E).run prog w=.ok Z w) {F:Xu->Option Value} (h:Zb9 w mb m F) (n:Xu) (g:n.length<=maxLen) :
  (Instr.lookup T (.map (some mb)) (.string ⟨n.toArray⟩) false).run prog w=.ok ((F n).getD Z) w:=by
 obtain ⟨D,i,_,j⟩:=h;obtain ⟨v,ps,c,b⟩:=World.ownsMap.lookup i ZfV f (e w) (zd:=.held Z) (zp:=[]) rfl (ZC3 n g);obtain ⟨d,k⟩:=j n
 have b:DataW.held v=D.atKey (.string n) (.held Z):=by
  simp only [R0,Xx,X9] at b;exact b.1
 rw [c];cases hf:F n with
 | none =>
   rw [hf] at d;rw [atKey_of_not_has d] at b;have b:=DataW.held.inj b;rw [b];rfl
 | some u =>
   rw [k u hf] at b;have b:=DataW.held.inj b;rw [b];rfl
theorem Zb9.len (e:prog.underlying T=some (.map 9 E)) {F:Xu->Option Value} (h:Zb9 w mb m F) (b:TypeId):(Builtin.len_ #[T] b #[.map (some mb)]).run prog w=.ok (.int .i64 (m:Int)) w:=by
 obtain ⟨D,d,c,_⟩:=h;have:=d.len e b;rw [c] at this;exact this
theorem ZvT {D:DataW Value} (h:w.ownsMap prog 9 R0 mb m D):w.ownsMap prog 9 R0 mb (Maps.size D) D:=by
 obtain ⟨es,c,b,F,hs,rfl⟩:=h;exact ⟨es,c,b,F,by simp [Maps.size,length_sorted],rfl⟩
theorem ZsL {k:Xu} (h:n≠k):(Lit.string n)≠Lit.string k:=fun e=>h (by injection e)
theorem Zb9.put_of {j:Nat} {F:Xu->Option Value} {D:DataW Value} {v:Value} (c:Tidy D) (g:Maps.size D=m) (d:∀n,Maps.has D (.string n)=(F n).isSome/\∀v,F n=some v->∀z,D.atKey (.string n) z=.held v)
  (h:w'.ownsMap prog 9 R0 mb j (D.put (.string n) (.held v))):Zb9 w' mb (if (F n).isSome then m else m+1) (fun k=>if k=n then some v else F k):=by
 have f:WideAt.IsKeyLit (.string n):=trivial;have hs:Maps.size (D.put (.string n) (.held v))=if (F n).isSome then m else m+1:=by rw [size_put c,(d n).1,g]
 refine ⟨_,hs▸ZvT h,hs,fun k => ?_⟩
 show Maps.has (D.put (.string n) (.held v)) (.string k)=(if k=n then some v else F k).isSome/\∀u,(if k=n then some v else F k)=some u->∀z,(D.put (.string n) (.held v)).atKey (.string k) z=.held u
 by_cases e:k=n
 ·subst e;rw [has_put_same c.isMap f];refine ⟨by simp,fun u b z => ?_⟩;rw [Xe rfl] at b;have b:=XW b;rw [atKey_put_same c.isMap f,b]
 ·rw [has_put_other (ZsL e),Xc e];refine ⟨(d k).1,fun u b z => ?_⟩;rw [atKey_put_other (ZsL e)];exact (d k).2 u b z
theorem Ztx (h:w.mapTurned w' mb):Kep (fun k=>k≠mb) w w':=ZO h.grown (fun k e b=>b (by injection e with e;exact e.symm))
theorem Zb9.store (e:prog.underlying T=some (.map 9 E)) {F:Xu->Option Value} (h:Zb9 w mb m F) (n:Xu) (v:Value) (f:n.length<=maxLen) (g:m<maxLen) :
  ∃w',(Instr.mapUpdate T (.map (some mb)) (.string ⟨n.toArray⟩) v).run prog w=.ok () w'/\Zb9 w' mb (if (F n).isSome then m else m+1) (fun k=>if k=n then some v else F k)/\Kep (fun k=>k≠mb) w w':=by
 obtain ⟨D,c,hs,j⟩:=h;obtain ⟨w',b,i,l⟩:=World.ownsMap.store c ZfV e g (ZC3 n f) (val:=v) (d:=.held v) (ps:=[]) rfl;exact ⟨w',b,Zb9.put_of (c.tidy ZfV) hs j i,Ztx l⟩
theorem ZdQ (g:prog.underlying T=some (.map 9 E)) {K:Act->World->Prop} {Q:Exit->Act->World->Prop} (x y z:Operand) (c:o.op=Op.mapUpdate T x y z) (mb m:Nat) (F:Xu->Option Value) (j:a.eval x=.map (some mb)) (h:Zb9 w mb m F) (l:m<maxLen)
  (n:Xu) (v:Value) (e:a.eval y=.string ⟨n.toArray⟩) (d:a.eval z=v) (i:n.length<=maxLen)
  (f:∀w',Zb9 w' mb (if (F n).isSome then m else m+1) (fun k=>if k=n then some v else F k)->Kep (fun k=>k≠mb) w w'->K (a.put o.dst undef) w'):o.wp prog a w K Q:=by
 obtain ⟨w',b,p,q⟩:=Zb9.store g h n v i l;unfold Oper.wp;simp [execOp,c,j,e,d,b,Result.andThen];exact f w' p q
def Zd8 (w:World) (mb r m:Nat) (F:Xu->Option Value) (left:Xu->Bool) (cnt:Nat):Prop :=
 ∃(D:DataW Value) (b:Lit->Bool),w.ranges prog 9 R0 mb r m D b cnt/\(∀n,Maps.has D (.string n)=(F n).isSome/\∀v,F n=some v->∀z,D.atKey (.string n) z=.held v)/\∀n,left n=b (.string n)
theorem Zd8.kep {F:Xu->Option Value} {left:Xu->Bool} (h:Zd8 w mb r m F left cnt) (f:Kep S w w') (t:S mb) (v:S r):Zd8 w' mb r m F left cnt:=by
 obtain ⟨D,l,e,p⟩:=h;have u:=e.owns.lt;have s:=e.lt;obtain ⟨es,b,c,d,c0,j,g,q,i,k,rest⟩:=e;exact ⟨D,l,⟨es,b,c,d,c0,(f.block mb u t).trans j,g,q,i,(f.block r s v).trans k,rest⟩,p⟩
theorem Zd8.left_eq {F:Xu->Option Value} {left:Xu->Bool} (h:Zd8 w mb r m F left cnt):w.rangeLeft mb r=cnt:=by
 obtain ⟨D,lf,b,_⟩:=h;exact b.left_eq
theorem Zd8.lt {F:Xu->Option Value} {left:Xu->Bool} (h:Zd8 w mb r m F left cnt):r<w.heap.size/\mb<w.heap.size/\r≠mb:=by
 obtain ⟨D,lf,b,_⟩:=h;exact ⟨b.lt,b.owns.lt,b.ne⟩
theorem Zvo (h:w.grownBy w' (some r)):Kep (fun k=>k≠r) w w':=ZO h fun k e b=>b (XW e).symm
theorem Zkq (e:prog.underlying T=some (.map 9 E)) {Q:Exit->Act->World->Prop} (l:o.guard=none) (x:Operand) (b:o.op=Op.range T x) (mb m:Nat) (F:Xu->Option Value)
  (g:a.eval x=.map (some mb)) (h:Zb9 w mb m F)
  (d:∀w' cnt,Zd8 w' mb w.heap.size m F (fun n=>(F n).isSome) cnt->Below w.heap.size w w'->w'.heap.size=w.heap.size+1->wpList prog ops Q rest (a.put o.dst (.pointer (some ⟨w.heap.size,0,none⟩))) w') :
  wpList prog ops Q (o::rest) a w:=by
 obtain ⟨D,i,hs,c⟩:=h;refine wpList_range_own w l x T b 9 E ZfV e R0 mb m D g i fun w' j p f => ?_;exact d w' _ ⟨D,_,j,c,fun n=>((c n).1).symm⟩ ((Below.refl _ _).grown p (Xa _) (fun k h=>by cases h)) f
theorem Zla {Q:Exit->Act->World->Prop} (V:o.guard=none) (z:Operand) (G:o.op=Op.next z false) (mb r m:Nat) (F:Xu->Option Value) (left:Xu->Bool) (cnt:Nat)
  (hit:a.eval z=.pointer (some ⟨r,0,none⟩)) (h:Zd8 w mb r m F left cnt)
  (i:(∀n,left n=false)->wpList prog ops Q rest (a.put o.dst (.tuple #[.bool false])) w)
  (j:∀(n:Xu) (v:Value) (w':World) (c:Nat),n.length<=maxLen->left n=true->F n=some v->Zd8 w' mb r m F (fun k=>left k && !decide (k=n)) c->c<cnt->Kep (fun k=>k≠r) w w'->w'.heap.size=w.heap.size ->
   (Instr.entry (.pointer (some ⟨r,0,none⟩))).run prog w'=.ok (.tuple #[.string ⟨n.toArray⟩,v]) w'->wpList prog ops Q rest (a.put o.dst (.tuple #[.bool true,.string ⟨n.toArray⟩,v])) w') :
  wpList prog ops Q (o::rest) a w:=by
 obtain ⟨D,O,R,t,l⟩:=h;refine wpList_next_ranges w V z G 9 ZfV R0 Value.string (fun v:Value=>v) (fun U L X=>Maps.keyOf_string_inv underlying9 X) (fun v y _=>⟨v,rfl⟩) mb r m D O cnt hit R ?_ ?_
 ·intro _ C;exact i fun n=>by rw [l,C]
 ·intro x v L y w' c b C W g J A H s I
  have Y:y.1=.held v:=by
   have:=XW W;rw [<- this]
  have d:x.size<=maxLen:=by
   simp only [keyOf,underlying9,mapKey] at b
   by_cases q:x.size<=maxLen
   ·exact q
   ·simp [q] at b
  have B:L=.string x.data.toList:=by
   rw [Go.WideMaps.keyOf_string_mk underlying9 d] at b;exact (XW b).symm
  subst B;rw [Y] at g;have f:=has_true_of_atKey g;rw [(t x.data.toList).1] at f;obtain ⟨u,M⟩:=Xbt.1 f
  have p:u=v:=by
   have N:=(t x.data.toList).2 u M (.held v);rw [g] at N;exact (DataW.held.inj N).symm
  subst p;refine j x.data.toList u w' c (by rw [<- Lib.size_eq];exact d) (by rw [l];exact C) M ⟨D,_,J,t,fun k => ?_⟩ A (Zvo H) s I
  have e:(Lit.string k).sameKey (.string x.data.toList)=decide (k=x.data.toList):=by
   by_cases q:k=x.data.toList
   ·subst q;rw [Xs rfl];exact WideAt.sameKey_self trivial
   ·rw [Xz q];exact sameKey_ne (ZsL q)
  show (left k && !decide (k=x.data.toList))=(O (.string k) && !(Lit.string k).sameKey (.string x.data.toList))
  rw [l k,e]
end SM
namespace EV
open RowKit MM EM SM
variable {S:Nat->Prop} {w w':World} {v:Value} {zs:List Int} {B mb:Nat}
def NoS:Nat->Prop:=fun _=>False
abbrev ZgJ (w:World) (v:Value) (zs:List Int):Prop:=Zbj Zbk 3 NoS w v zs
theorem ZgJ.of (h:Zbj Zbk 3 (fun b=>NoS b/\S b) w v zs):ZgJ w v zs:=h.weak (fun _ _ h=>h.1) (fun _ _ h=>h)
theorem ZgJ.ints (h:ZgJ w v zs) {g:Nat} (c:v.ownBlock=some g):ZbK w g:=by
 obtain ⟨b,a,_⟩:=h;exact (Zbn a c).2
theorem ZgJ.keep {T:Nat->Prop} (h:ZgJ w v zs) (a:Kep T w w') (b:∀g,v.ownBlock=some g->T g):ZgJ w' v zs:=Zbj.keep h a (fun _ _ h=>h.elim) b
theorem ZgJ.nil_ (w:World):ZgJ w (.slice none 0 0) []:=Zbj.nil_ _ _ _
theorem ZAg (w:World):(zeroValue 69).run prog w=.ok (.slice none 0 0) w:=by kernel_rfl
theorem ZgQ {α:Type}:∀{l:List (EM.Tr α)} (s:Xu) (p:α),ZX l->(∀t∈l,t.2≠[])->(Zak l s p).length=if Zm l s=[] then l.length+1 else l.length
 | [],s,p,_,_=>by simp [Zak,Zm]
 | t::r,s,p,h,hn=>by
   have f:ZX r:=(XaA.1 h).2;have ih:=ZgQ (l:=r) s p f fun u c=>hn u (by simp [c]);rw [Zak]
   by_cases a:Zg t.1 s=true
   ·rw [Xe a,Xh,ih,Zm,Xc (Zbd a),Xh]
    split<;>rfl
   ·rw [Xc a]
    by_cases b:t.1=s
    ·rw [Xe b,Zm,Xe b,Xc (hn t (by simp))];rfl
    ·rw [Xc b,Zm,Xc b];have hs:Zg s t.1=true:=ZaC (by simpa using a) b
     have:Zm r s=[]:=Zbf fun u c e=>by
      have d:Zg t.1 u.1=true:=(XaA.1 h).1 u c;rw [e] at d;exact a d
     rw [Xe this];rfl
theorem Zct {α:Type}:∀(qs:List (Xu×α)) (l:List (EM.Tr α)),(Zz l qs).length<=l.length+qs.length
 | [],l=>by simp [Zz]
 | q::qs,l=>by
   have h1:=Zct qs (Zak l q.1 q.2);have h2:=ZgR l q.1 q.2;have e:Zz l (q::qs)=Zz (Zak l q.1 q.2) qs:=rfl;rw [e,Xh];omega
theorem Zgo {α:Type} (qs:List (Xu×α)) (s:Xu):(Zm (Zz ([]:List (EM.Tr α)) qs) s).length<=qs.length:=by
 rw [ZeV qs s List.Pairwise.nil,Zm,XE,XF];exact Xbs _ _
structure Plc (B mb:Nat) (T:List Trm) (F:Xu->Option Value) (w:World):Prop where
 map:Zb9 w mb T.length F
 lo:B<=mb
 none:∀s,F s=none->Zm T s=[]
 own:∀s v,F s=some v->ZgJ w v (Zm T s)/\Zm T s≠[]/\∀g,v.ownBlock=some g->B<=g
 apart:∀s t u v g,F s=some u->F t=some v->u.ownBlock=some g->v.ownBlock=some g->s=t
 rise:ZX T
 ne:∀t∈T,t.2≠[]
theorem Plc.keep {T:List Trm} {F:Xu->Option Value} (h:Plc B mb T F w) (c:Kep S w w') (e:S mb) (d:∀b,ZbK w b->S b):Plc B mb T F w' :=
 ⟨h.map.kep c e,h.lo,h.none,fun s v a=>⟨(h.own s v a).1.keep c fun g f=>d g ((h.own s v a).1.ints f),(h.own s v a).2⟩,h.apart,h.rise,h.ne⟩
theorem Plc.below {T:List Trm} {F:Xu->Option Value} (h:Plc B mb T F w) (a:Below w.heap.size w w'):Plc B mb T F w':=h.keep (Za (fun _=>True) a) trivial fun _ _=>trivial
theorem Plc.made (w:World) (B:Nat) (a:B<=w.heap.size):Plc B w.heap.size [] (fun _=>Option.none) (w.alloc (.map #[] 0)) :=
 ⟨Zb9.made w,a,fun _ _=>rfl,fun _ _ h=>(by cases h),fun _ _ _ _ _ h=>(by cases h),List.Pairwise.nil,fun _ h=>(by cases h)⟩
theorem Plc.not_ints {T:List Trm} {F:Xu->Option Value} (h:Plc B mb T F w):¬ZbK w mb:=fun ⟨b,fr,a⟩=>by
 obtain ⟨es,c,d⟩:=h.map.obj;rw [d] at a;cases a
def found (F:Xu->Option Value) (s:Xu):Value:=(F s).getD (.slice Option.none 0 0)
theorem Plc.look {T:List Trm} {F:Xu->Option Value} (h:Plc B mb T F w) (s:Xu) (hs:s.length<=maxLen):(Instr.lookup 263 (.map (some mb)) (.string ⟨s.toArray⟩) false).run prog w=.ok (found F s) w :=
 Zb9.look underlying263 ZAg h.map s hs
theorem Plc.found {T:List Trm} {F:Xu->Option Value} (h:Plc B mb T F w) (s:Xu):ZgJ w (found F s) (Zm T s)/\∀g,(EV.found F s).ownBlock=some g->B<=g/\g≠mb/\ZbK w g/\g<w.heap.size:=by
 unfold EV.found;cases hf:F s with
 | none =>
   rw [h.none s hf];exact ⟨ZgJ.nil_ w,fun g a=>by cases a⟩
 | some v =>
   obtain ⟨b,_,c⟩:=h.own s v hf;exact ⟨b,fun g a=>⟨c g a,fun e=>h.not_ints (e▸b.ints a),b.ints a,(Zbj.lt b g a).1⟩⟩
theorem Plc.some_iff {T:List Trm} {F:Xu->Option Value} (h:Plc B mb T F w) (s:Xu):(F s).isSome=true↔Zm T s≠[]:=by
 cases hf:F s with
 | none=>simp [h.none s hf]
 | some v=>simp [(h.own s v hf).2.1]
theorem Plc.put {T:List Trm} {F:Xu->Option Value} {E A:World} {s:Xu} {p:Int} (h:Plc B mb T F w) (I:B<=w.heap.size)
  (x:Kep (fun k=>(EV.found F s).ownBlock≠some k) w E) (H:ZgJ E v (Zm T s++[p])) (f:∀g,v.ownBlock=some g->(EV.found F s).ownBlock=some g\/w.heap.size<=g)
  (G:Zb9 A mb (if (F s).isSome then T.length else T.length+1) (fun k=>if k=s then some v else F k)) (n:Kep (fun k=>k≠mb) E A):Plc B mb (Zak T s p) (fun k=>if k=s then some v else F k) A:=by
 have hf:=h.found s
 have m:(if (F s).isSome then T.length else T.length+1)=(Zak T s p).length:=by
  rw [ZgQ s p h.rise h.ne]
  by_cases q:Zm T s=[]
  ·rw [Xe q,Xc (fun e=>(h.some_iff s).1 e q)]
  ·rw [Xc q,Xe ((h.some_iff s).2 q)]
 rw [m] at G
 have D:∀g,v.ownBlock=some g->B<=g:=fun g z=>by
  rcases f g z with c|c
  ·exact (hf.2 g c).1
  ·omega
 have C:∀g,v.ownBlock=some g->g≠mb:=fun g z=>by
  rcases f g z with c|c
  ·exact (hf.2 g c).2.1
  ·have:=h.map.lt;omega
 have d:∀t u,t≠s->F t=some u->∀g,u.ownBlock=some g->(EV.found F s).ownBlock≠some g:=fun t u y a g f e=>by
  unfold EV.found at e;cases hF:F s with
  | none=>rw [hF] at e;cases e
  | some u2 =>
    rw [hF] at e;exact y (h.apart t s u u2 g a hF f e)
 refine ⟨G,h.lo,fun t r => ?_,fun t u a => ?_,fun t o u u' g a b c l => ?_,ZdS s p h.rise,Zld s p h.ne⟩
 ·rw [ZeA s p t h.rise]
  by_cases e:t=s
  ·rw [Xe e] at r;cases r
  ·rw [Xc e] at r ⊢;exact h.none t r
 ·rw [ZeA s p t h.rise]
  by_cases e:t=s
  ·rw [Xe e] at a ⊢;obtain rfl:=XW a;exact ⟨H.keep n C,by simp,D⟩
  ·rw [Xc e] at a ⊢;obtain ⟨c,l,i⟩:=h.own t u a;refine ⟨(c.keep x (d t u e a)).keep n fun g f J => ?_,l,i⟩;exact h.not_ints (J▸c.ints f)
 ·by_cases e:t=s
  ·by_cases j:o=s
   ·rw [e,j]
   ·rw [Xe e] at a;rw [Xc j] at b;obtain rfl:=XW a;rcases f g c with i|i
    ·exact absurd i (d o u' j b g l)
    ·have:=(Zbj.lt (h.own o u' b).1 g l).1;omega
  ·by_cases j:o=s
   ·rw [Xc e] at a;rw [Xe j] at b;obtain rfl:=XW b;rcases f g l with i|i
    ·exact absurd i (d t u e a g c)
    ·have:=(Zbj.lt (h.own t u a).1 g c).1;omega
   ·rw [Xc e] at a;rw [Xc j] at b;exact h.apart t o u u' g a b c l
end EV
namespace SG
open RowKit MM EM SM
open EV (ZgQ)
variable {S:Nat->Prop}
abbrev Zdm:=Int×List Int
theorem Zy5:Elem Zdp prog 47 125 32:=⟨underlying47,by
 have h:(prog.info? 125).map (fun i=>(i.zero,i.size,i.bytes))=some (some (.agg #[.int .i64 0,.slice none 0 0]),2,32):=by kernel_rfl
 obtain ⟨i,a,d,c,b⟩:=info_parts h;exact ⟨i,_,a,d,c,b,rfl⟩⟩
theorem Zll {w:World} {c:List Value} {p:Zdm}:Zdp.on S w c p↔∃v,c=[.int .i64 p.1,v]/\ZB Zbk S w v p.2:=by
 constructor
 ·rintro ⟨x,y,rfl,a,v,d,b⟩;have a:x=[.int .i64 p.1]:=a;exact ⟨v,by rw [a,d];rfl,b⟩
 ·rintro ⟨v,rfl,b⟩;exact ⟨[_],[v],rfl,rfl,v,rfl,b⟩
theorem ZwN (w:World):(zeroValue 47).run prog w=.ok (.slice none 0 0) w:=by kernel_rfl
def found (F:Xu->Option Value) (s:Xu):Value:=(F s).getD (.slice Option.none 0 0)
structure Tab (B mb:Nat) (X:Nat->Prop) (T:List (EM.Tr Zdm)) (F:Xu->Option Value) (w:World):Prop where
 map:Zb9 w mb T.length F
 lo:B<=mb
 hi:∀b,X b->b<w.heap.size/\b≠mb
 none:∀s,F s=none->Zm T s=[]
 own:∀s v,F s=some v->Zbj Zdp 125 X w v (Zm T s)/\Zm T s≠[]/\∀g,v.ownBlock=some g->B<=g/\g≠mb
 apart:∀s t u v g,F s=some u->F t=some v->u.ownBlock=some g->v.ownBlock=some g->s=t
 rise:ZX T
 ne:∀t∈T,t.2≠[]
variable {B mb : Nat} {X : Nat -> Prop} {T : List (EM.Tr Zdm)} {F : Xu -> Option Value} {w w' : World}
theorem Tab.keep (h:Tab B mb X T F w) (c:Kep S w w') (e:∀b,B<=b->S b) (f:∀b,X b->S b):Tab B mb X T F w' :=
 ⟨h.map.kep c (e mb h.lo),h.lo,fun b a=>⟨XJ (h.hi b a).1 c.size,(h.hi b a).2⟩,h.none,fun s v d=>⟨(h.own s v d).1.keep c (fun b _ a=>f b a) fun g i=>e g ((h.own s v d).2.2 g i).1,(h.own s v d).2⟩,h.apart,h.rise,h.ne⟩
theorem Tab.below (h:Tab B mb X T F w) (a:Below w.heap.size w w'):Tab B mb X T F w':=h.keep (Za (fun _=>True) a) (fun _ _=>trivial) fun _ _=>trivial
theorem Tab.made (w:World) (B:Nat) (a:B<=w.heap.size):Tab B w.heap.size (fun _=>False) [] (fun _=>Option.none) (w.alloc (.map #[] 0)) :=
 ⟨Zb9.made w,a,fun _ h=>h.elim,fun _ _=>rfl,fun _ _ h=>(by cases h),fun _ _ _ _ _ h=>(by cases h),List.Pairwise.nil,fun _ h=>(by cases h)⟩
theorem Tab.more (h:Tab B mb X T F w) (j:Below w.heap.size w w'):Tab B mb (fun b=>X b\/(w.heap.size<=b/\b<w'.heap.size)) T F w':=by
 have c:=h.below j;refine ⟨c.map,c.lo,fun b a => ?_,c.none,fun s v f=>⟨?_,(c.own s v f).2⟩,c.apart,c.rise,c.ne⟩
 ·rcases a with a|a
  ·exact c.hi b a
  ·exact ⟨a.2,fun e=>by have:=h.map.lt;omega⟩
 ·refine Zbj.weak (c.own s v f).1 (fun b _ d=>.inl d) fun g k d => ?_;have i:=Zbj.lt (h.own s v f).1 g k;rcases d with d|d
  ·exact i.2 d
  ·omega
theorem Tab.found (h:Tab B mb X T F w) (s:Xu):Zbj Zdp 125 X w (SG.found F s) (Zm T s)/\∀g,(SG.found F s).ownBlock=some g->B<=g/\g≠mb/\g<w.heap.size:=by
 unfold SG.found;cases hf:F s with
 | none =>
   rw [h.none s hf];exact ⟨Zbj.nil_ _ _ w,fun g a=>by cases a⟩
 | some v =>
   obtain ⟨b,_,c⟩:=h.own s v hf;exact ⟨b,fun g a=>⟨(c g a).1,(c g a).2,(Zbj.lt b g a).1⟩⟩
theorem Tab.some_iff (h:Tab B mb X T F w) (s:Xu):(F s).isSome=true↔Zm T s≠[]:=by
 cases hf:F s with
 | none=>simp [h.none s hf]
 | some v=>simp [(h.own s v hf).2.1]
theorem Tab.put {G E:World} {s:Xu} {p:Zdm} {v:Value} (h:Tab B mb X T F w) (L:B<=w.heap.size)
  (r:Kep (fun k=>(SG.found F s).ownBlock≠some k) w G) (I:Zbj Zdp 125 X G v (Zm T s++[p])) (j:∀g,v.ownBlock=some g->(SG.found F s).ownBlock=some g\/w.heap.size<=g)
  (H:Zb9 E mb (if (F s).isSome then T.length else T.length+1) (fun k=>if k=s then some v else F k)) (m:Kep (fun k=>k≠mb) G E):Tab B mb X (Zak T s p) (fun k=>if k=s then some v else F k) E:=by
 have hf:=h.found s
 have q:(if (F s).isSome then T.length else T.length+1)=(Zak T s p).length:=by
  rw [ZgQ s p h.rise h.ne]
  by_cases z:Zm T s=[]
  ·rw [Xe z,Xc (fun e=>(h.some_iff s).1 e z)]
  ·rw [Xc z,Xe ((h.some_iff s).2 z)]
 rw [q] at H
 have x:∀g,v.ownBlock=some g->B<=g/\g≠mb:=fun g J=>by
  rcases j g J with i|i
  ·exact ⟨(hf.2 g i).1,(hf.2 g i).2.1⟩
  ·have:=h.map.lt;exact ⟨by omega,by omega⟩
 have d:∀t u,t≠s->F t=some u->∀g,u.ownBlock=some g->(SG.found F s).ownBlock≠some g:=fun t u C a g j e=>by
  unfold SG.found at e;cases hF:F s with
  | none=>rw [hF] at e;cases e
  | some u2 =>
    rw [hF] at e;exact C (h.apart t s u u2 g a hF j e)
 have D:∀b,X b->(SG.found F s).ownBlock≠some b:=fun b f e=>(Zbj.lt hf.1 b e).2 f;refine ⟨H,h.lo,fun b f=>⟨XJ (h.hi b f).1 (Xy r.size m.size),(h.hi b f).2⟩,fun t A => ?_,fun t u a => ?_,fun t y u u' g a c i o => ?_,ZdS s p h.rise,Zld s p h.ne⟩
 ·rw [ZeA s p t h.rise]
  by_cases e:t=s
  ·rw [Xe e] at A;cases A
  ·rw [Xc e] at A ⊢;exact h.none t A
 ·rw [ZeA s p t h.rise]
  by_cases e:t=s
  ·rw [Xe e] at a ⊢;obtain rfl:=XW a;exact ⟨I.keep m (fun b _ f=>(h.hi b f).2) fun g j=>(x g j).2,by simp,x⟩
  ·rw [Xc e] at a ⊢;obtain ⟨i,o,l⟩:=h.own t u a;exact ⟨(i.keep r (fun b _ f=>D b f) (d t u e a)).keep m (fun b _ f=>(h.hi b f).2) fun g j=>(l g j).2,o,l⟩
 ·by_cases e:t=s
  ·by_cases n:y=s
   ·rw [e,n]
   ·rw [Xe e] at a;rw [Xc n] at c;obtain rfl:=XW a;rcases j g i with l|l
    ·exact absurd l (d y u' n c g o)
    ·have:=(Zbj.lt (h.own y u' c).1 g o).1;omega
  ·by_cases n:y=s
   ·rw [Xc e] at a;rw [Xe n] at c;obtain rfl:=XW c;rcases j g o with l|l
    ·exact absurd l (d t u e a g i)
    ·have:=(Zbj.lt (h.own t u a).1 g i).1;omega
   ·rw [Xc e] at a;rw [Xc n] at c;exact h.apart t y u u' g a c i o
end SG
namespace SG
open RowKit MM EM SM
open EV (ZgQ)
variable {B mb : Nat} {X : Nat -> Prop} {T : List (EM.Tr Zdm)} {F : Xu -> Option Value} {w w' : World}
theorem Tab.look (h:Tab B mb X T F w) (s:Xu) (hs:s.length<=maxLen):(Instr.lookup 136 (.map (some mb)) (.string ⟨s.toArray⟩) false).run prog w=.ok (SG.found F s) w :=
 Zb9.look underlying136 ZwN h.map s hs
theorem Tab.len (h:Tab B mb X T F w) (a:TypeId):(Builtin.len_ #[136] a #[.map (some mb)]).run prog w=.ok (.int .i64 (T.length:Int)) w:=Zb9.len underlying136 h.map a
end SG
namespace SG
open RowKit MM PW
variable {S:Nat->Prop} {w:World} {v:Value}
theorem ZBM {f:List Int} (h:ZB Zbk S w v f):IOn S w v f:=by
 obtain ⟨p,j,d,o,r,s,q,k,a⟩:=h;refine ⟨p,j,o,r,s,q,?_⟩;rcases a with a|⟨b,off,n,g,m,a⟩
 ·exact .inl a
 ·refine .inr ⟨b,off,n,g,m,fun i hi => ?_⟩;have c:i<d.length:=by rw [k.1];exact hi
  have e:d[i]=[.int .i64 f[i]]:=k.2 i c hi;have hf:=flat_get k.lens i c 0 (.int .i64 f[i]) (by rw [e];rfl);have l:Zbk.size=1:=rfl;rw [l,XaB,Xad] at hf;exact a i _ hf
def ZCs:List Value->Int×Value
 | [.int _ z,u]=>(z,u)
 | _=>(0,.bool false)
theorem Zpx {ps:List (Int×List Int)} (h:ZB Zdp S w v ps):POn S w v ps:=by
 obtain ⟨p,l,c,t,A,B,z,f,d⟩:=h
 have g:∀i (hi:i<c.length) (a:i<ps.length),∃u,c[i]=[.int .i64 ps[i].1,u]/\ZB Zbk S w u ps[i].2:=fun i hi a=>by
  obtain ⟨x,y,n,m,u,q,j⟩:=f.2 i hi a;have m:x=[.int .i64 ps[i].1]:=m;exact ⟨u,by rw [n,m,q];rfl,j⟩
 refine ⟨p,l,c.map ZCs,t,A,B,z,⟨by rw [XF];exact f.1,fun i hi a => ?_⟩,?_⟩
 ·rw [XF] at hi;obtain ⟨u,e,j⟩:=g i hi a;rw [Xax,e];exact ⟨rfl,ZBM j⟩
 ·rcases d with d|⟨b,off,s,k,r,d⟩
  ·exact .inl d
  ·refine .inr ⟨b,off,s,k,r,fun i hi => ?_⟩;rw [XF] at hi;have a:i<ps.length:=by rw [<- f.1];exact hi
   obtain ⟨u,e,j⟩:=g i hi a;have o:Zdp.size=2:=rfl;have f0:=flat_get f.lens i hi 0 (.int .i64 ps[i].1) (by rw [e];rfl);have f1:=flat_get f.lens i hi 1 u (by rw [e];rfl);rw [o,Xad] at f0;rw [o] at f1;rw [Xax,e];exact ⟨d _ _ f0,by have:=d _ _ f1;rw [<- Xat] at this;exact this⟩
