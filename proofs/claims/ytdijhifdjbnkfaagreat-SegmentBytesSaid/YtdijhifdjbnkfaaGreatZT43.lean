import Derived.Test.YtdijhifdjbnkfaaGreatZT2
import Derived.OrdersHeld
import Derived.StillTail
set_option maxRecDepth 100000
set_option maxHeartbeats 0
set_option linter.unusedVariables false
set_option linter.unusedSimpArgs false
namespace Go.Proofs.YtdijhifdjbnkfaaGreat
namespace RS
open RowKit MM
variable {n g:Nat} {v:Value} {a:Act} {w:World} {o:Oper}
section
variable {P : Program} {ops : Array Oper} {Q : Exit -> Act -> World -> Prop} {md : Region.Mode}
def HL (P:Program) (md:Region.Mode) (ops:Array Oper) (Q:Exit->Act->World->Prop) (S:World->Prop) (n:Nat) (L:Array Bool->Act->World->Prop):Nat->Array Bool->Act->World->Prop
 | 0,listed,a,w=>L listed a w
 | f+1,listed,a,w=>Region.ready md ops listed≠[]/\∀i∈Region.ready md ops listed,i<n/\wpOp P ops Q i (fun b w'=>S w'/\HL P md ops Q S n L f (listed.setIfInBounds i true) b w') a w
theorem Zko {S:World->Prop} {L:Array Bool->Act->World->Prop} (c:∀b a w,L b a w->wpAny P md ops Q g b a w) :
  ∀(f:Nat) (b:Array Bool) (a:Act) (w:World),HL P md ops Q S n L f b a w->wpAny P md ops Q (f+g) b a w
 | 0,b,a,w,h=>by rw [XL];exact c _ _ _ h
 | f+1,b,a,w,h=>by
   rw [show f+1+g=(f+g)+1 by omega];exact ⟨fun d=>absurd d h.1,fun i hi=>wpOp_mono (fun e w' j=>Zko c f _ e w' j.2) (h.2 i hi).2⟩
theorem first {S:World->Prop} {i:Nat} {C:Oper} {L:Array Bool->Act->World->Prop} (hi:ops[i]? = some C) (x:∀(j:Nat) (o:Oper) D b,ops[j]? = some o->o.op≠.select D b)
  (hs:Region.sinkB md ops n=true) (Y:Region.chainB md ops n=true) (Z:n<ops.size) (F:i<n) (hQ:∀c a w,Q (.panic c) (a.put C.dst v) w->Q (.panic c) a w)
  (y:∀d a w,L d a w->∀j∈Region.ready md ops d,n<=j) :
  ∀(f:Nat) (d:Array Bool) (a:Act) (w:World),HeadInv md ops n d ->
    (∀j B,ops[j]? = some B->j≠i->d.getD j true=false->(∀e∈B.after,Region.binds md e=true->e.on≠i)->C.apart ops B=true) ->
    i∈Region.ready md ops d->YieldsIf P ops S C v a->S w ->
    HL P md ops Q S n L f (d.setIfInBounds i true) (a.put C.dst v) w->HL P md ops Q S n L (f+1) d a w:=by
 intro f
 induction f with
 | zero =>
   intro d a w s _ t R J H;have m:=(mem_ready.1 t).1;refine ⟨fun h=>(by rw [h] at t;cases t),fun j A => ?_⟩
   have q:j<n:=by
    rcases Nat.lt_or_ge j n with h|h
    ·exact h
    ·exact absurd A (tail_waits hs Y Z s _ i rfl F m j h)
   refine ⟨q,?_⟩
   by_cases l:j=i
   ·subst l;exact R.wpOp hi J ⟨J,H⟩
   ·have:=y _ _ _ H j (ready_mono A l);omega
 | succ f ih =>
   intro d a w s p t R J H;have m:=(mem_ready.1 t).1;refine ⟨fun h=>(by rw [h] at t;cases t),fun j A => ?_⟩
   have q:j<n:=by
    rcases Nat.lt_or_ge j n with h|h
    ·exact h
    ·exact absurd A (tail_waits hs Y Z s _ i rfl F m j h)
   refine ⟨q,?_⟩
   by_cases l:j=i
   ·subst l;exact R.wpOp hi J ⟨J,H⟩
   ·have U:=(H.2 j (ready_mono A l)).2;obtain ⟨u,B,z,G⟩:=mem_ready.1 A
    have M:∀e∈B.after,Region.binds md e=true->e.on≠i:=fun e he hb W=>by
     have U:=G e he hb;rw [W,getD_both m] at U;cases U
    have h2:=wpOp_putIf z (p j B z l u M) (fun D b=>x i C D b hi) (fun D b=>x j B D b z) hQ R U
    have r:∀k N,ops[k]? = some N->k≠i->(d.setIfInBounds j true).getD k true=false ->
      (∀e∈N.after,Region.binds md e=true->e.on≠i)->C.apart ops N=true:=fun k N hk V m X=>by
     refine p k N hk V ?_ X
     by_cases I:j=k
     ·subst I;exact u
     ·rw [getD_set_ne true I] at m;exact m
    refine wpOp_mono (fun a' w' O=>⟨O.2.1,ih (d.setIfInBounds j true) a' w' (s.set A q) r (ready_mono t (Ne.symm l)) O.1 O.2.1 ?_⟩) h2;rw [Array.setIfInBounds_comm _ _ l];exact O.2.2
def Way (p:Prop):Prop:=p
theorem Way.out {p:Prop} (h:Way p):p:=h
def walk (T:Nat->Prop) (P:Program) (ops:Array Oper) (Q:Exit->Act->World->Prop) (E:Act->World->Prop):List (Option Oper×Bool)->Act->World->Prop
 | [],a,w=>E a w
 | (some o,true)::rest,a,w=>∃v,YieldsIf P ops (Kep T w) o v a/\walk T P ops Q E rest (a.put o.dst v) w
 | (some o,false)::rest,a,w=>∀K:Act->World->Prop,(∀b w',Kep T w w'->walk T P ops Q E rest b w'->K b w')->if Region.wanted o (yielded ops a.tmps)=true then o.wp P a w K Q else K (a.put o.dst undef) w
 | (none,_)::_,_,_=>False
def Zy (ops:Array Oper) (l:List (Nat×Bool)):List (Option Oper×Bool):=l.map fun p=>(ops[p.1]?,p.2)
def Z7 (md:Region.Mode) (ops:Array Oper) (n g:Nat):List (Nat×Bool)->Array Bool->Bool
 | [],listed=>Region.seqB md ops g n listed
 | (i,true)::rest,listed=>Region.free md ops listed i&&(Region.ready md ops listed).contains i&&decide (i<n)&&Z7 md ops n g rest (listed.setIfInBounds i true)
 | (i,false)::rest,listed=>(Region.ready md ops listed == [i])&&decide (i<n)&&Z7 md ops n g rest (listed.setIfInBounds i true)
theorem Znt {S S':World->Prop} (c:∀w,S' w->S w) {L:Array Bool->Act->World->Prop}:∀(f:Nat) (b:Array Bool) (a:Act) (w:World),HL P md ops Q S' n L f b a w->HL P md ops Q S n L f b a w
 | 0,_,_,_,h=>h
 | f+1,_,_,_,h=>⟨h.1,fun i hi=>⟨(h.2 i hi).1,wpOp_mono (fun e w' d=>⟨c _ d.1,Znt c f _ e w' d.2⟩) (h.2 i hi).2⟩⟩
theorem Zie {T:Nat->Prop} {E:Act->World->Prop} (q:Region.noSelect ops=true) (hs:Region.sinkB md ops n=true) (u:Region.chainB md ops n=true) (y:n<ops.size)
  (z:∀c a d v w,Q (.panic c) (Act.put a d v) w->Q (.panic c) a w) :
  ∀(l:List (Nat×Bool)) (e:Array Bool) (a:Act) (w:World),Z7 md ops n g l e=true->HeadInv md ops n e->walk T P ops Q E (Zy ops l) a w ->
    HL P md ops Q (Kep T w) n (fun k t w'=>Region.seqB md ops g n k=true/\E t w') l.length e a w
 | [],e,a,w,hp,inv,h=>⟨hp,h⟩
 | (i,b)::rest,e,a,w,hp,inv,h=>by
   have s:walk T P ops Q E ((ops[i]?,b)::Zy ops rest) a w:=h;cases ho:ops[i]? with
   | none=>rw [ho] at s;cases b<;>exact s.elim
   | some o =>
     rw [ho] at s;cases b with
     | true =>
       obtain ⟨v,G,D⟩:=s;simp only [Z7,Xy,Xg] at hp;obtain ⟨⟨⟨I,r⟩,p⟩,m⟩:=hp;have f:i∈Region.ready md ops e:=by simpa using r
       exact first ho (Region.noSelect_spec q) hs u y p (fun c a w=>z c a _ _ w) (fun k t w' C=>seqB_ready C.1) rest.length e a w inv (Region.free_spec ho I) f G (Kep.refl _ w)
        (Zie q hs u y z rest _ _ _ m (inv.set f p) D)
     | false =>
       simp only [Z7,Xy,Xg] at hp;obtain ⟨⟨r,p⟩,m⟩:=hp;have f:Region.ready md ops e=[i]:=by simpa using r
       refine ⟨by rw [f];simp,fun j x => ?_⟩;obtain rfl:j=i:=by rw [f] at x;simpa using x
       refine ⟨p,wpOp_step ho (fun K B=>s K (fun t w' A F=>B t w' ⟨A,Znt (fun W H=>A.trans H) _ _ _ _ (Zie q hs u y z rest _ _ _ m (inv.set x p) F)⟩))⟩
def ZBT (ops:Array Oper) (l:List (Nat×Bool)):Bool :=
 Region.noSelect ops&&decide (l.length<ops.size)&&Region.sinkB .any ops l.length&&Region.chainB .any ops l.length&&Z7 .any ops l.length (ops.size - l.length) l (Array.replicate ops.size false)
theorem ZaF {T:Nat->Prop} (l:List (Nat×Bool)) {id:Nat} (r:P.follows .mixedOrders=true) (p:ZBT ops l=true) (y:∀c a d v w,Q (.panic c) (Act.put a d v) w->Q (.panic c) a w)
  (h:walk T P ops Q (fun k w'=>wpList P ops Q (ops.toList.drop l.length) k w') (Zy ops l) a w.drew):(Code.region id ops true).wp P Q a w:=by
 simp only [ZBT,Xy,Xg] at p;obtain ⟨⟨⟨⟨i,u⟩,hs⟩,s⟩,z⟩:=p
 have e:HeadInv .any ops l.length (Array.replicate ops.size false) :=
  ⟨by simp,fun j oj _ q=>(by rw [getD_replicate_false] at q;cases q),fun t _ x=>getD_in (by simpa using x) (getD_replicate_false _ _)⟩
 have H:=Zie (md:=.any) i hs s u y l (Array.replicate ops.size false) a w.drew z e h;refine wp_region_any r ?_;have f:(ops.toList.drop l.length).length=ops.size - l.length:=by simp
 have:=Zko (Q:=Q) (g:=ops.size - l.length) (fun b k w' m=>by
  have:=wpAny_of_seq (md:=.any) (Q':=Q) (ops:=ops) (ops.toList.drop l.length) l.length b k w' (fun j=>by simp [Xbd]) (by rw [f];exact m.1) m.2
  rwa [f] at this) _ _ _ _ H
 rw [show l.length+(ops.size - l.length)=ops.size by omega] at this;exact this
variable {T : Nat -> Prop} {E : Act -> World -> Prop}
theorem take {rest:List (Option Oper×Bool)} (c:Region.wanted o (yielded ops a.tmps)=true)
  (b:∀W,Kep T w W->(execOp a.eval o).run P W=.ok (.value v) W) (h:walk T P ops Q E rest (a.put o.dst v) w):walk T P ops Q E ((some o,true)::rest) a w :=
 ⟨v,.inl ⟨c,b⟩,h⟩
theorem alone {rest:List (Option Oper×Bool)} (d:Region.wanted o (yielded ops a.tmps)=true)
  (h:∀K:Act->World->Prop,Way (∀b w',Kep T w w'->walk T P ops Q E rest b w'->K b w')->o.wp P a w K Q):walk T P ops Q E ((some o,false)::rest) a w:=by
 intro K c;rw [Xe d];exact h K c
theorem done (h:E a w):walk T P ops Q E [] a w:=h
end
