import Derived.Sort.MapsRangeIn
import Derived.Test.YtdijhifdjbnkfaaGreatZT5
import Derived.Test.YtdijhifdjbnkfaaGreatZT20
set_option maxRecDepth 100000
set_option maxHeartbeats 0
set_option linter.unusedVariables false
set_option linter.unusedSimpArgs false
namespace Go.Proofs.YtdijhifdjbnkfaaGreat
open Tryz
namespace SM
open RowKit MM Go.Maps
variable {w w':World} {mb m r cnt:Nat} {S:Nat->Prop} {T E:TypeId} {n:Xu} {o:Oper} {a:Act} {ops:Array Oper} {rest:List Oper}
abbrev R0:Value->Option (DataW Value×List MemPlace):=fun v=>some (.held v,[])
theorem ZfY:Keyed prog 9:=string_keyed underlying9
def Zca (w:World) (mb m:Nat) (F:Xu->Option Value):Prop :=
 ∃D:DataW Value,w.ownsMap prog 9 R0 mb m D/\Maps.size D=m/\∀n,Maps.has D (.string n)=(F n).isSome/\∀v,F n=some v->∀z,D.atKey (.string n) z=.held v
theorem ZCP (n:Xu) (b:n.length<=maxLen):keyOf prog 9 (.string ⟨n.toArray⟩)=some (.string n):=Go.WideMaps.keyOf_string_mk (s:=⟨n.toArray⟩) underlying9 (by rw [Lib.size_eq];exact b)
theorem Zca.lt {F:Xu->Option Value} (h:Zca w mb m F):mb<w.heap.size:=by
 obtain ⟨D,b,_⟩:=h;exact b.lt
theorem ZqR {R:Value->Option (DataW Value×List MemPlace)} {D:DataW Value} (h:w.ownsMap prog 9 R mb m D) (g:Kep S w w') (f:S mb):w'.ownsMap prog 9 R mb m D:=by
 have c:=h.lt;obtain ⟨es,b,d,F,hs,e⟩:=h;exact ⟨es,b,(g.block mb c f).trans d,F,hs,e⟩
theorem Zca.kep {F:Xu->Option Value} (h:Zca w mb m F) (b:Kep S w w') (d:S mb):Zca w' mb m F:=by
 obtain ⟨D,c,e⟩:=h;exact ⟨D,ZqR c b d,e⟩
theorem Zca.made (w:World):Zca (w.alloc (.map #[] 0)) w.heap.size 0 (fun _=>none) :=
 ⟨.map [],World.ownsMap_made _ _ _ _,rfl,fun n=>⟨rfl,fun v h=>by cases h⟩⟩
theorem Zca.obj {F:Xu->Option Value} (h:Zca w mb m F):∃es c,w.heap[mb]? = some (.map es c):=by
 obtain ⟨D,⟨es,c,b,_⟩,_⟩:=h;exact ⟨es,c,b⟩
theorem Zca.look (j:prog.underlying T=some (.map 9 E)) {Z:Value} (e:∀w,(zeroValue E).run prog w=.ok Z w) {F:Xu->Option Value} (h:Zca w mb m F) (n:Xu) (f:n.length<=maxLen) :
  (Instr.lookup T (.map (some mb)) (.string ⟨n.toArray⟩) false).run prog w=.ok ((F n).getD Z) w:=by
 obtain ⟨D,g,_,i⟩:=h;obtain ⟨v,ps,c,b⟩:=World.ownsMap.lookup g ZfY j (e w) (zd:=.held Z) (zp:=[]) rfl (ZCP n f);obtain ⟨d,k⟩:=i n
 have b:DataW.held v=D.atKey (.string n) (.held Z):=by
  simp only [R0,Xv,X8] at b;exact b.1
 rw [c];cases hf:F n with
 | none =>
   rw [hf] at d;rw [atKey_of_not_has d] at b;have b:=DataW.held.inj b;rw [b];rfl
 | some u =>
   rw [k u hf] at b;have b:=DataW.held.inj b;rw [b];rfl
theorem Zca.len (d:prog.underlying T=some (.map 9 E)) {F:Xu->Option Value} (h:Zca w mb m F) (b:TypeId):(Builtin.len_ #[T] b #[.map (some mb)]).run prog w=.ok (.int .i64 (m:Int)) w:=by
 obtain ⟨D,e,c,_⟩:=h;have:=e.len d b;rw [c] at this;exact this
theorem Zvk {D:DataW Value} (h:w.ownsMap prog 9 R0 mb m D):w.ownsMap prog 9 R0 mb (Maps.size D) D:=by
 obtain ⟨es,c,b,F,hs,rfl⟩:=h;exact ⟨es,c,b,F,by simp [Maps.size,length_sorted],rfl⟩
theorem Zsh {k:Xu} (h:n≠k):(Lit.string n)≠Lit.string k:=fun e=>h (by injection e)
theorem Zca.put_of {j:Nat} {F:Xu->Option Value} {D:DataW Value} {v:Value} (c:Tidy D) (g:Maps.size D=m) (d:∀n,Maps.has D (.string n)=(F n).isSome/\∀v,F n=some v->∀z,D.atKey (.string n) z=.held v)
  (h:w'.ownsMap prog 9 R0 mb j (D.put (.string n) (.held v))):Zca w' mb (if (F n).isSome then m else m+1) (fun k=>if k=n then some v else F k):=by
 have f:WideAt.IsKeyLit (.string n):=trivial;have hs:Maps.size (D.put (.string n) (.held v))=if (F n).isSome then m else m+1:=by rw [size_put c,(d n).1,g]
 refine ⟨_,hs▸Zvk h,hs,fun k => ?_⟩
 show Maps.has (D.put (.string n) (.held v)) (.string k)=(if k=n then some v else F k).isSome/\∀u,(if k=n then some v else F k)=some u->∀z,(D.put (.string n) (.held v)).atKey (.string k) z=.held u
 by_cases e:k=n
 ·subst e;rw [has_put_same c.isMap f];refine ⟨by simp,fun u b z => ?_⟩;rw [Xe rfl] at b;have b:=XP b;rw [atKey_put_same c.isMap f,b]
 ·rw [has_put_other (Zsh e),Xa e];refine ⟨(d k).1,fun u b z => ?_⟩;rw [atKey_put_other (Zsh e)];exact (d k).2 u b z
theorem Zs0 (h:w.mapTurned w' mb):Kep (fun k=>k≠mb) w w':=ZM h.grown (fun k e b=>b (by injection e with e;exact e.symm))
theorem Zca.store (j:prog.underlying T=some (.map 9 E)) {F:Xu->Option Value} (h:Zca w mb m F) (n:Xu) (v:Value) (g:n.length<=maxLen) (e:m<maxLen) :
  ∃w',(Instr.mapUpdate T (.map (some mb)) (.string ⟨n.toArray⟩) v).run prog w=.ok () w'/\Zca w' mb (if (F n).isSome then m else m+1) (fun k=>if k=n then some v else F k)/\Kep (fun k=>k≠mb) w w':=by
 obtain ⟨D,c,hs,i⟩:=h;obtain ⟨w',b,l,f⟩:=World.ownsMap.store c ZfY j e (ZCP n g) (val:=v) (d:=.held v) (ps:=[]) rfl;exact ⟨w',b,Zca.put_of (c.tidy ZfY) hs i l,Zs0 f⟩
theorem ZdQ (j:prog.underlying T=some (.map 9 E)) {K:Act->World->Prop} {Q:Exit->Act->World->Prop} (x y z:Operand) (c:o.op=Op.mapUpdate T x y z) (mb m:Nat) (F:Xu->Option Value) (l:a.eval x=.map (some mb)) (h:Zca w mb m F) (d:m<maxLen)
  (n:Xu) (v:Value) (f:a.eval y=.string ⟨n.toArray⟩) (i:a.eval z=v) (g:n.length<=maxLen)
  (p:∀w',Zca w' mb (if (F n).isSome then m else m+1) (fun k=>if k=n then some v else F k)->Kep (fun k=>k≠mb) w w'->K (a.put o.dst undef) w'):o.wp prog a w K Q:=by
 obtain ⟨w',b,q,e⟩:=Zca.store j h n v g d;unfold Oper.wp;simp [execOp,c,l,f,i,b,Result.andThen];exact p w' q e
def Zea (w:World) (mb r m:Nat) (F:Xu->Option Value) (left:Xu->Bool) (cnt:Nat):Prop :=
 ∃(D:DataW Value) (b:Lit->Bool),w.ranges prog 9 R0 mb r m D b cnt/\(∀n,Maps.has D (.string n)=(F n).isSome/\∀v,F n=some v->∀z,D.atKey (.string n) z=.held v)/\∀n,left n=b (.string n)
theorem Zea.kep {F:Xu->Option Value} {left:Xu->Bool} (h:Zea w mb r m F left cnt) (f:Kep S w w') (l:S mb) (j:S r):Zea w' mb r m F left cnt:=by
 obtain ⟨D,g,e,t⟩:=h;have p:=e.owns.lt;have v:=e.lt;obtain ⟨es,c,b,d,c0,k,i,u,s,q,rest⟩:=e;exact ⟨D,g,⟨es,c,b,d,c0,(f.block mb p l).trans k,i,u,s,(f.block r v j).trans q,rest⟩,t⟩
theorem Zea.left_eq {F:Xu->Option Value} {left:Xu->Bool} (h:Zea w mb r m F left cnt):w.rangeLeft mb r=cnt:=by
 obtain ⟨D,lf,b,_⟩:=h;exact b.left_eq
theorem Zea.lt {F:Xu->Option Value} {left:Xu->Bool} (h:Zea w mb r m F left cnt):r<w.heap.size/\mb<w.heap.size/\r≠mb:=by
 obtain ⟨D,lf,b,_⟩:=h;exact ⟨b.lt,b.owns.lt,b.ne⟩
theorem ZuP (h:w.grownBy w' (some r)):Kep (fun k=>k≠r) w w':=ZM h fun k e b=>b (XP e).symm
theorem Zkl (f:prog.underlying T=some (.map 9 E)) {Q:Exit->Act->World->Prop} (d:o.guard=none) (x:Operand) (b:o.op=Op.range T x) (mb m:Nat) (F:Xu->Option Value)
  (i:a.eval x=.map (some mb)) (h:Zca w mb m F)
  (j:∀w' cnt,Zea w' mb w.heap.size m F (fun n=>(F n).isSome) cnt->Below w.heap.size w w'->w'.heap.size=w.heap.size+1->wpList prog ops Q rest (a.put o.dst (.pointer (some ⟨w.heap.size,0,none⟩))) w') :
  wpList prog ops Q (o::rest) a w:=by
 obtain ⟨D,g,hs,c⟩:=h;refine wpList_range_own w d x T b 9 E ZfY f R0 mb m D i g fun w' e p l => ?_;exact j w' _ ⟨D,_,e,c,fun n=>((c n).1).symm⟩ ((Below.refl _ _).grown p (Xc _) (fun k h=>by cases h)) l
theorem Zk7 {Q:Exit->Act->World->Prop} (U:o.guard=none) (I:Operand) (J:o.op=Op.next I false) (mb r m:Nat) (F:Xu->Option Value) (left:Xu->Bool) (cnt:Nat)
  (hit:a.eval I=.pointer (some ⟨r,0,none⟩)) (h:Zea w mb r m F left cnt)
  (i:(∀n,left n=false)->wpList prog ops Q rest (a.put o.dst (.tuple #[.bool false])) w)
  (g:∀(n:Xu) (v:Value) (w':World) (b:Nat),n.length<=maxLen->left n=true->F n=some v->Zea w' mb r m F (fun k=>left k && !decide (k=n)) b->b<cnt->Kep (fun k=>k≠r) w w'->w'.heap.size=w.heap.size ->
   (Instr.entry (.pointer (some ⟨r,0,none⟩))).run prog w'=.ok (.tuple #[.string ⟨n.toArray⟩,v]) w'->wpList prog ops Q rest (a.put o.dst (.tuple #[.bool true,.string ⟨n.toArray⟩,v])) w') :
  wpList prog ops Q (o::rest) a w:=by
 obtain ⟨D,N,V,p,j⟩:=h;refine wpList_next_ranges w U I J 9 ZfY R0 Value.string (fun v:Value=>v) (fun R L Y=>Maps.keyOf_string_inv underlying9 Y) (fun v y _=>⟨v,rfl⟩) mb r m D N cnt hit V ?_ ?_
 ·intro _ t;exact i fun n=>by rw [j,t]
 ·intro x v L y w' b c t W l H s G z A
  have X:y.1=.held v:=by
   have:=XP W;rw [<- this]
  have d:x.size<=maxLen:=by
   simp only [keyOf,underlying9,mapKey] at c
   by_cases q:x.size<=maxLen
   ·exact q
   ·simp [q] at c
  have B:L=.string x.data.toList:=by
   rw [Go.WideMaps.keyOf_string_mk underlying9 d] at c;exact (XP c).symm
  subst B;rw [X] at l;have f:=has_true_of_atKey l;rw [(p x.data.toList).1] at f;obtain ⟨u,M⟩:=Xbr.1 f
  have C:u=v:=by
   have O:=(p x.data.toList).2 u M (.held v);rw [l] at O;exact (DataW.held.inj O).symm
  subst C;refine g x.data.toList u w' b (by rw [<- Lib.size_eq];exact d) (by rw [j];exact t) M ⟨D,_,H,p,fun k => ?_⟩ s (ZuP G) z A
  have e:(Lit.string k).sameKey (.string x.data.toList)=decide (k=x.data.toList):=by
   by_cases q:k=x.data.toList
   ·subst q;rw [Xw rfl];exact WideAt.sameKey_self trivial
   ·rw [XB q];exact sameKey_ne (Zsh q)
  show (left k && !decide (k=x.data.toList))=(N (.string k) && !(Lit.string k).sameKey (.string x.data.toList))
  rw [j k,e]
end SM
namespace EV
open RowKit MM EM SM
variable {S:Nat->Prop} {w w':World} {v:Value} {zs:List Int} {B mb:Nat}
def NoS:Nat->Prop:=fun _=>False
abbrev ZgO (w:World) (v:Value) (zs:List Int):Prop:=Zbf Zbw 3 NoS w v zs
theorem ZgO.of (h:Zbf Zbw 3 (fun b=>NoS b/\S b) w v zs):ZgO w v zs:=h.weak (fun _ _ h=>h.1) (fun _ _ h=>h)
theorem ZgO.ints (h:ZgO w v zs) {g:Nat} (a:v.ownBlock=some g):Zbz w g:=by
 obtain ⟨b,c,_⟩:=h;exact (Zbk c a).2
theorem ZgO.keep {T:Nat->Prop} (h:ZgO w v zs) (b:Kep T w w') (a:∀g,v.ownBlock=some g->T g):ZgO w' v zs:=Zbf.keep h b (fun _ _ h=>h.elim) a
theorem ZgO.nil_ (w:World):ZgO w (.slice none 0 0) []:=Zbf.nil_ _ _ _
theorem ZzV (w:World):(zeroValue 69).run prog w=.ok (.slice none 0 0) w:=by kernel_rfl
theorem ZiS {α:Type}:∀{l:List (EM.Tr α)} (s:Xu) (p:α),Zac l->(∀t∈l,t.2≠[])->(Zaj l s p).length=if Zs l s=[] then l.length+1 else l.length
 | [],s,p,_,_=>by simp [Zaj,Zs]
 | t::r,s,p,h,hn=>by
   have f:Zac r:=(Xax.1 h).2;have ih:=ZiS (l:=r) s p f fun u c=>hn u (by simp [c]);rw [Zaj]
   by_cases b:Zj t.1 s=true
   ·rw [Xe b,Xh,ih,Zs,Xa (ZbF b),Xh]
    split<;>rfl
   ·rw [Xa b]
    by_cases a:t.1=s
    ·rw [Xe a,Zs,Xe a,Xa (hn t (by simp))];rfl
    ·rw [Xa a,Zs,Xa a];have hs:Zj s t.1=true:=ZaC (by simpa using b) a
     have:Zs r s=[]:=ZbX fun u c e=>by
      have d:Zj t.1 u.1=true:=(Xax.1 h).1 u c;rw [e] at d;exact b d
     rw [Xe this];rfl
theorem Zcw {α:Type}:∀(qs:List (Xu×α)) (l:List (EM.Tr α)),(ZC l qs).length<=l.length+qs.length
 | [],l=>by simp [ZC]
 | q::qs,l=>by
   have h1:=Zcw qs (Zaj l q.1 q.2);have h2:=ZgT l q.1 q.2;have e:ZC l (q::qs)=ZC (Zaj l q.1 q.2) qs:=rfl;rw [e,Xh];omega
theorem Zgu {α:Type} (qs:List (Xu×α)) (s:Xu):(Zs (ZC ([]:List (EM.Tr α)) qs) s).length<=qs.length:=by
 rw [ZeX qs s List.Pairwise.nil,Zs,Xz,XE];exact List.length_filter_le _ _
structure Plc (B mb:Nat) (T:List Trm) (F:Xu->Option Value) (w:World):Prop where
 map:Zca w mb T.length F
 lo:B<=mb
 none:∀s,F s=none->Zs T s=[]
 own:∀s v,F s=some v->ZgO w v (Zs T s)/\Zs T s≠[]/\∀g,v.ownBlock=some g->B<=g
 apart:∀s t u v g,F s=some u->F t=some v->u.ownBlock=some g->v.ownBlock=some g->s=t
 rise:Zac T
 ne:∀t∈T,t.2≠[]
theorem Plc.keep {T:List Trm} {F:Xu->Option Value} (h:Plc B mb T F w) (c:Kep S w w') (e:S mb) (f:∀b,Zbz w b->S b):Plc B mb T F w' :=
 ⟨h.map.kep c e,h.lo,h.none,fun s v a=>⟨(h.own s v a).1.keep c fun g d=>f g ((h.own s v a).1.ints d),(h.own s v a).2⟩,h.apart,h.rise,h.ne⟩
theorem Plc.below {T:List Trm} {F:Xu->Option Value} (h:Plc B mb T F w) (a:Below w.heap.size w w'):Plc B mb T F w':=h.keep (Za (fun _=>True) a) trivial fun _ _=>trivial
theorem Plc.made (w:World) (B:Nat) (a:B<=w.heap.size):Plc B w.heap.size [] (fun _=>Option.none) (w.alloc (.map #[] 0)) :=
 ⟨Zca.made w,a,fun _ _=>rfl,fun _ _ h=>(by cases h),fun _ _ _ _ _ h=>(by cases h),List.Pairwise.nil,fun _ h=>(by cases h)⟩
theorem Plc.not_ints {T:List Trm} {F:Xu->Option Value} (h:Plc B mb T F w):¬Zbz w mb:=fun ⟨d,fr,a⟩=>by
 obtain ⟨es,c,b⟩:=h.map.obj;rw [b] at a;cases a
def found (F:Xu->Option Value) (s:Xu):Value:=(F s).getD (.slice Option.none 0 0)
theorem Plc.look {T:List Trm} {F:Xu->Option Value} (h:Plc B mb T F w) (s:Xu) (hs:s.length<=maxLen):(Instr.lookup 263 (.map (some mb)) (.string ⟨s.toArray⟩) false).run prog w=.ok (found F s) w :=
 Zca.look underlying263 ZzV h.map s hs
theorem Plc.found {T:List Trm} {F:Xu->Option Value} (h:Plc B mb T F w) (s:Xu):ZgO w (found F s) (Zs T s)/\∀g,(EV.found F s).ownBlock=some g->B<=g/\g≠mb/\Zbz w g/\g<w.heap.size:=by
 unfold EV.found;cases hf:F s with
 | none =>
   rw [h.none s hf];exact ⟨ZgO.nil_ w,fun g a=>by cases a⟩
 | some v =>
   obtain ⟨b,_,c⟩:=h.own s v hf;exact ⟨b,fun g a=>⟨c g a,fun e=>h.not_ints (e▸b.ints a),b.ints a,(Zbf.lt b g a).1⟩⟩
theorem Plc.some_iff {T:List Trm} {F:Xu->Option Value} (h:Plc B mb T F w) (s:Xu):(F s).isSome=true↔Zs T s≠[]:=by
 cases hf:F s with
 | none=>simp [h.none s hf]
 | some v=>simp [(h.own s v hf).2.1]
theorem Plc.put {T:List Trm} {F:Xu->Option Value} {C y:World} {s:Xu} {p:Int} (h:Plc B mb T F w) (J:B<=w.heap.size)
  (x:Kep (fun k=>(EV.found F s).ownBlock≠some k) w C) (I:ZgO C v (Zs T s++[p])) (f:∀g,v.ownBlock=some g->(EV.found F s).ownBlock=some g\/w.heap.size<=g)
  (G:Zca y mb (if (F s).isSome then T.length else T.length+1) (fun k=>if k=s then some v else F k)) (n:Kep (fun k=>k≠mb) C y):Plc B mb (Zaj T s p) (fun k=>if k=s then some v else F k) y:=by
 have H:=h.found s
 have o:(if (F s).isSome then T.length else T.length+1)=(Zaj T s p).length:=by
  rw [ZiS s p h.rise h.ne]
  by_cases q:Zs T s=[]
  ·rw [Xe q,Xa (fun e=>(h.some_iff s).1 e q)]
  ·rw [Xa q,Xe ((h.some_iff s).2 q)]
 rw [o] at G
 have E:∀g,v.ownBlock=some g->B<=g:=fun g A=>by
  rcases f g A with c|c
  ·exact (H.2 g c).1
  ·omega
 have z:∀g,v.ownBlock=some g->g≠mb:=fun g A=>by
  rcases f g A with c|c
  ·exact (H.2 g c).2.1
  ·have:=h.map.lt;omega
 have d:∀t u,t≠s->F t=some u->∀g,u.ownBlock=some g->(EV.found F s).ownBlock≠some g:=fun t u D a g f e=>by
  unfold EV.found at e;cases hF:F s with
  | none=>rw [hF] at e;cases e
  | some u2 =>
    rw [hF] at e;exact D (h.apart t s u u2 g a hF f e)
 refine ⟨G,h.lo,fun t r => ?_,fun t u a => ?_,fun t m u u' g a b c l => ?_,ZdT s p h.rise,Zla s p h.ne⟩
 ·rw [Zez s p t h.rise]
  by_cases e:t=s
  ·rw [Xe e] at r;cases r
  ·rw [Xa e] at r ⊢;exact h.none t r
 ·rw [Zez s p t h.rise]
  by_cases e:t=s
  ·rw [Xe e] at a ⊢;obtain rfl:=XP a;exact ⟨I.keep n z,by simp,E⟩
  ·rw [Xa e] at a ⊢;obtain ⟨c,l,i⟩:=h.own t u a;refine ⟨(c.keep x (d t u e a)).keep n fun g f L => ?_,l,i⟩;exact h.not_ints (L▸c.ints f)
 ·by_cases e:t=s
  ·by_cases j:m=s
   ·rw [e,j]
   ·rw [Xe e] at a;rw [Xa j] at b;obtain rfl:=XP a;rcases f g c with i|i
    ·exact absurd i (d m u' j b g l)
    ·have:=(Zbf.lt (h.own m u' b).1 g l).1;omega
  ·by_cases j:m=s
   ·rw [Xa e] at a;rw [Xe j] at b;obtain rfl:=XP b;rcases f g l with i|i
    ·exact absurd i (d t u e a g c)
    ·have:=(Zbf.lt (h.own t u a).1 g c).1;omega
   ·rw [Xa e] at a;rw [Xa j] at b;exact h.apart t m u u' g a b c l
end EV
namespace SG
open RowKit MM EM SM
open EV (ZiS)
variable {S:Nat->Prop}
abbrev ZdS:=Int×List Int
theorem ZyD:Elem Zd2 prog 47 125 32:=⟨underlying47,by
 have h:(prog.info? 125).map (fun i=>(i.zero,i.size,i.bytes))=some (some (.agg #[.int .i64 0,.slice none 0 0]),2,32):=by kernel_rfl
 obtain ⟨i,b,c,a,d⟩:=info_parts h;exact ⟨i,_,b,c,a,d,rfl⟩⟩
theorem Zlj {w:World} {c:List Value} {p:ZdS}:Zd2.on S w c p↔∃v,c=[.int .i64 p.1,v]/\ZD Zbw S w v p.2:=by
 constructor
 ·rintro ⟨x,y,rfl,b,v,d,a⟩;have b:x=[.int .i64 p.1]:=b;exact ⟨v,by rw [b,d];rfl,a⟩
 ·rintro ⟨v,rfl,a⟩;exact ⟨[_],[v],rfl,rfl,v,rfl,a⟩
theorem Zwk (w:World):(zeroValue 47).run prog w=.ok (.slice none 0 0) w:=by kernel_rfl
def found (F:Xu->Option Value) (s:Xu):Value:=(F s).getD (.slice Option.none 0 0)
structure Tab (B mb:Nat) (X:Nat->Prop) (T:List (EM.Tr ZdS)) (F:Xu->Option Value) (w:World):Prop where
 map:Zca w mb T.length F
 lo:B<=mb
 hi:∀b,X b->b<w.heap.size/\b≠mb
 none:∀s,F s=none->Zs T s=[]
 own:∀s v,F s=some v->Zbf Zd2 125 X w v (Zs T s)/\Zs T s≠[]/\∀g,v.ownBlock=some g->B<=g/\g≠mb
 apart:∀s t u v g,F s=some u->F t=some v->u.ownBlock=some g->v.ownBlock=some g->s=t
 rise:Zac T
 ne:∀t∈T,t.2≠[]
variable {B mb : Nat} {X : Nat -> Prop} {T : List (EM.Tr ZdS)} {F : Xu -> Option Value} {w w' : World}
theorem Tab.keep (h:Tab B mb X T F w) (d:Kep S w w') (e:∀b,B<=b->S b) (i:∀b,X b->S b):Tab B mb X T F w' :=
 ⟨h.map.kep d (e mb h.lo),h.lo,fun b a=>⟨XK (h.hi b a).1 d.size,(h.hi b a).2⟩,h.none,fun s v c=>⟨(h.own s v c).1.keep d (fun b _ a=>i b a) fun g f=>e g ((h.own s v c).2.2 g f).1,(h.own s v c).2⟩,h.apart,h.rise,h.ne⟩
theorem Tab.below (h:Tab B mb X T F w) (a:Below w.heap.size w w'):Tab B mb X T F w':=h.keep (Za (fun _=>True) a) (fun _ _=>trivial) fun _ _=>trivial
theorem Tab.made (w:World) (B:Nat) (a:B<=w.heap.size):Tab B w.heap.size (fun _=>False) [] (fun _=>Option.none) (w.alloc (.map #[] 0)) :=
 ⟨Zca.made w,a,fun _ h=>h.elim,fun _ _=>rfl,fun _ _ h=>(by cases h),fun _ _ _ _ _ h=>(by cases h),List.Pairwise.nil,fun _ h=>(by cases h)⟩
theorem Tab.more (h:Tab B mb X T F w) (j:Below w.heap.size w w'):Tab B mb (fun b=>X b\/(w.heap.size<=b/\b<w'.heap.size)) T F w':=by
 have c:=h.below j;refine ⟨c.map,c.lo,fun b a => ?_,c.none,fun s v f=>⟨?_,(c.own s v f).2⟩,c.apart,c.rise,c.ne⟩
 ·rcases a with a|a
  ·exact c.hi b a
  ·exact ⟨a.2,fun e=>by have:=h.map.lt;omega⟩
 ·refine Zbf.weak (c.own s v f).1 (fun b _ d=>.inl d) fun g i d => ?_;have k:=Zbf.lt (h.own s v f).1 g i;rcases d with d|d
  ·exact k.2 d
  ·omega
theorem Tab.look (h:Tab B mb X T F w) (s:Xu) (hs:s.length<=maxLen):(Instr.lookup 136 (.map (some mb)) (.string ⟨s.toArray⟩) false).run prog w=.ok (found F s) w :=
 Zca.look underlying136 Zwk h.map s hs
theorem Tab.len (h:Tab B mb X T F w) (a:TypeId):(Builtin.len_ #[136] a #[.map (some mb)]).run prog w=.ok (.int .i64 (T.length:Int)) w:=Zca.len underlying136 h.map a
theorem Tab.found (h:Tab B mb X T F w) (s:Xu):Zbf Zd2 125 X w (SG.found F s) (Zs T s)/\∀g,(SG.found F s).ownBlock=some g->B<=g/\g≠mb/\g<w.heap.size:=by
 unfold SG.found;cases hf:F s with
 | none =>
   rw [h.none s hf];exact ⟨Zbf.nil_ _ _ w,fun g a=>by cases a⟩
 | some v =>
   obtain ⟨c,_,b⟩:=h.own s v hf;exact ⟨c,fun g a=>⟨(b g a).1,(b g a).2,(Zbf.lt c g a).1⟩⟩
theorem Tab.some_iff (h:Tab B mb X T F w) (s:Xu):(F s).isSome=true↔Zs T s≠[]:=by
 cases hf:F s with
 | none=>simp [h.none s hf]
 | some v=>simp [(h.own s v hf).2.1]
theorem Tab.put {E D:World} {s:Xu} {p:ZdS} {v:Value} (h:Tab B mb X T F w) (M:B<=w.heap.size)
  (r:Kep (fun k=>(SG.found F s).ownBlock≠some k) w E) (L:Zbf Zd2 125 X E v (Zs T s++[p])) (j:∀g,v.ownBlock=some g->(SG.found F s).ownBlock=some g\/w.heap.size<=g)
  (I:Zca D mb (if (F s).isSome then T.length else T.length+1) (fun k=>if k=s then some v else F k)) (m:Kep (fun k=>k≠mb) E D):Tab B mb X (Zaj T s p) (fun k=>if k=s then some v else F k) D:=by
 have H:=h.found s
 have x:(if (F s).isSome then T.length else T.length+1)=(Zaj T s p).length:=by
  rw [ZiS s p h.rise h.ne]
  by_cases z:Zs T s=[]
  ·rw [Xe z,Xa (fun e=>(h.some_iff s).1 e z)]
  ·rw [Xa z,Xe ((h.some_iff s).2 z)]
 rw [x] at I
 have y:∀g,v.ownBlock=some g->B<=g/\g≠mb:=fun g J=>by
  rcases j g J with i|i
  ·exact ⟨(H.2 g i).1,(H.2 g i).2.1⟩
  ·have:=h.map.lt;exact ⟨by omega,by omega⟩
 have d:∀t u,t≠s->F t=some u->∀g,u.ownBlock=some g->(SG.found F s).ownBlock≠some g:=fun t u G a g j e=>by
  unfold SG.found at e;cases hF:F s with
  | none=>rw [hF] at e;cases e
  | some u2 =>
    rw [hF] at e;exact G (h.apart t s u u2 g a hF j e)
 have C:∀b,X b->(SG.found F s).ownBlock≠some b:=fun b f e=>(Zbf.lt H.1 b e).2 f;refine ⟨I,h.lo,fun b f=>⟨XK (h.hi b f).1 (Xx r.size m.size),(h.hi b f).2⟩,fun t A => ?_,fun t u a => ?_,fun t q u u' g a c i o => ?_,ZdT s p h.rise,Zla s p h.ne⟩
 ·rw [Zez s p t h.rise]
  by_cases e:t=s
  ·rw [Xe e] at A;cases A
  ·rw [Xa e] at A ⊢;exact h.none t A
 ·rw [Zez s p t h.rise]
  by_cases e:t=s
  ·rw [Xe e] at a ⊢;obtain rfl:=XP a;exact ⟨L.keep m (fun b _ f=>(h.hi b f).2) fun g j=>(y g j).2,by simp,y⟩
  ·rw [Xa e] at a ⊢;obtain ⟨i,o,l⟩:=h.own t u a;exact ⟨(i.keep r (fun b _ f=>C b f) (d t u e a)).keep m (fun b _ f=>(h.hi b f).2) fun g j=>(l g j).2,o,l⟩
 ·by_cases e:t=s
  ·by_cases n:q=s
   ·rw [e,n]
   ·rw [Xe e] at a;rw [Xa n] at c;obtain rfl:=XP a;rcases j g i with l|l
    ·exact absurd l (d q u' n c g o)
    ·have:=(Zbf.lt (h.own q u' c).1 g o).1;omega
  ·by_cases n:q=s
   ·rw [Xa e] at a;rw [Xe n] at c;obtain rfl:=XP c;rcases j g o with l|l
    ·exact absurd l (d t u e a g i)
    ·have:=(Zbf.lt (h.own t u a).1 g i).1;omega
   ·rw [Xa e] at a;rw [Xa n] at c;exact h.apart t q u u' g a c i o
open RowKit MM PW
variable {S:Nat->Prop} {w:World} {v:Value}
theorem ZBs {f:List Int} (h:ZD Zbw S w v f):IOn S w v f:=by
 obtain ⟨p,k,c,o,m,t,s,g,a⟩:=h;refine ⟨p,k,o,m,t,s,?_⟩;rcases a with a|⟨b,off,q,j,r,a⟩
 ·exact .inl a
 ·refine .inr ⟨b,off,q,j,r,fun i hi => ?_⟩;have d:i<c.length:=by rw [g.1];exact hi
  have e:c[i]=[.int .i64 f[i]]:=g.2 i d hi;have l:=flat_get g.lens i d 0 (.int .i64 f[i]) (by rw [e];rfl);have n:Zbw.size=1:=rfl;rw [n,XaG,Xah] at l;exact a i _ l
def ZCa:List Value->Int×Value
 | [.int _ z,u]=>(z,u)
 | _=>(0,.bool false)
theorem ZtP {ps:List (Int×List Int)} (h:ZD Zd2 S w v ps):POn S w v ps:=by
 obtain ⟨p,n,c,s,r,B,A,f,d⟩:=h
 have g:∀i (hi:i<c.length) (a:i<ps.length),∃u,c[i]=[.int .i64 ps[i].1,u]/\ZD Zbw S w u ps[i].2:=fun i hi a=>by
  obtain ⟨x,y,k,l,u,q,j⟩:=f.2 i hi a;have l:x=[.int .i64 ps[i].1]:=l;exact ⟨u,by rw [k,l,q];rfl,j⟩
 refine ⟨p,n,c.map ZCa,s,r,B,A,⟨by rw [XE];exact f.1,fun i hi a => ?_⟩,?_⟩
 ·rw [XE] at hi;obtain ⟨u,e,j⟩:=g i hi a;rw [XaA,e];exact ⟨rfl,ZBs j⟩
 ·rcases d with d|⟨b,off,z,m,t,d⟩
  ·exact .inl d
  ·refine .inr ⟨b,off,z,m,t,fun i hi => ?_⟩;rw [XE] at hi;have a:i<ps.length:=by rw [<- f.1];exact hi
   obtain ⟨u,e,j⟩:=g i hi a;have o:Zd2.size=2:=rfl;have f0:=flat_get f.lens i hi 0 (.int .i64 ps[i].1) (by rw [e];rfl);have f1:=flat_get f.lens i hi 1 u (by rw [e];rfl);rw [o,Xah] at f0;rw [o] at f1;rw [XaA,e];exact ⟨d _ _ f0,by have:=d _ _ f1;rw [<- Xav] at this;exact this⟩
