import Derived.Test.YtmomfobdpfajbaaGreatZA2
import Derived.OrdersHeld
import Derived.StillTail
set_option maxRecDepth 100000
set_option maxHeartbeats 0
set_option linter.unusedVariables false
set_option linter.unusedSimpArgs false
namespace Go.Proofs.YtmomfobdpfajbaaGreat
namespace RS
open RowKit MM
variable {n g:Nat} {v:Value} {a:Act} {w:World} {o:Oper}
section
variable {P : Program} {ops : Array Oper} {Q : Exit -> Act -> World -> Prop} {md : Region.Mode}
def HL (P:Program) (md:Region.Mode) (ops:Array Oper) (Q:Exit->Act->World->Prop) (S:World->Prop) (n:Nat) (L:Array Bool->Act->World->Prop):Nat->Array Bool->Act->World->Prop
 | 0,listed,a,w=>L listed a w
 | f+1,listed,a,w=>Region.ready md ops listed≠[]/\∀i∈Region.ready md ops listed,i<n/\wpOp P ops Q i (fun b w'=>S w'/\HL P md ops Q S n L f (listed.setIfInBounds i true) b w') a w
theorem Zku {S:World->Prop} {L:Array Bool->Act->World->Prop} (c:∀b a w,L b a w->wpAny P md ops Q g b a w) :
  ∀(f:Nat) (b:Array Bool) (a:Act) (w:World),HL P md ops Q S n L f b a w->wpAny P md ops Q (f+g) b a w
 | 0,b,a,w,h=>by rw [XL];exact c _ _ _ h
 | f+1,b,a,w,h=>by
   rw [show f+1+g=(f+g)+1 by omega];exact ⟨fun e=>absurd e h.1,fun i hi=>wpOp_mono (fun d w' j=>Zku c f _ d w' j.2) (h.2 i hi).2⟩
theorem first {S:World->Prop} {i:Nat} {C:Oper} {L:Array Bool->Act->World->Prop} (hi:ops[i]? = some C) (t:∀(j:Nat) (o:Oper) D b,ops[j]? = some o->o.op≠.select D b)
  (hs:Region.sinkB md ops n=true) (Y:Region.chainB md ops n=true) (Z:n<ops.size) (N:i<n) (hQ:∀c a w,Q (.panic c) (a.put C.dst v) w->Q (.panic c) a w)
  (B:∀d a w,L d a w->∀j∈Region.ready md ops d,n<=j) :
  ∀(f:Nat) (d:Array Bool) (a:Act) (w:World),HeadInv md ops n d ->
    (∀j A,ops[j]? = some A->j≠i->d.getD j true=false->(∀e∈A.after,Region.binds md e=true->e.on≠i)->C.apart ops A=true) ->
    i∈Region.ready md ops d->YieldsIf P ops S C v a->S w ->
    HL P md ops Q S n L f (d.setIfInBounds i true) (a.put C.dst v) w->HL P md ops Q S n L (f+1) d a w:=by
 intro f
 induction f with
 | zero =>
   intro d a w s _ u U J H;have m:=(mem_ready.1 u).1;refine ⟨fun h=>(by rw [h] at u;cases u),fun j y => ?_⟩
   have q:j<n:=by
    rcases Nat.lt_or_ge j n with h|h
    ·exact h
    ·exact absurd y (tail_waits hs Y Z s _ i rfl N m j h)
   refine ⟨q,?_⟩
   by_cases l:j=i
   ·subst l;exact U.wpOp hi J ⟨J,H⟩
   ·have:=B _ _ _ H j (ready_mono y l);omega
 | succ f ih =>
   intro d a w s p u U J H;have m:=(mem_ready.1 u).1;refine ⟨fun h=>(by rw [h] at u;cases u),fun j y => ?_⟩
   have q:j<n:=by
    rcases Nat.lt_or_ge j n with h|h
    ·exact h
    ·exact absurd y (tail_waits hs Y Z s _ i rfl N m j h)
   refine ⟨q,?_⟩
   by_cases l:j=i
   ·subst l;exact U.wpOp hi J ⟨J,H⟩
   ·have O:=(H.2 j (ready_mono y l)).2;obtain ⟨x,A,z,I⟩:=mem_ready.1 y
    have G:∀e∈A.after,Region.binds md e=true->e.on≠i:=fun e he hb X=>by
     have O:=I e he hb;rw [X,getD_both m] at O;cases O
    have h2:=wpOp_putIf z (p j A z l x G) (fun D b=>t i C D b hi) (fun D b=>t j A D b z) hQ U O
    have r:∀k F,ops[k]? = some F->k≠i->(d.setIfInBounds j true).getD k true=false ->
      (∀e∈F.after,Region.binds md e=true->e.on≠i)->C.apart ops F=true:=fun k F hk V m W=>by
     refine p k F hk V ?_ W
     by_cases M:j=k
     ·subst M;exact x
     ·rw [getD_set_ne true M] at m;exact m
    refine wpOp_mono (fun a' w' R=>⟨R.2.1,ih (d.setIfInBounds j true) a' w' (s.set y q) r (ready_mono u (Ne.symm l)) R.1 R.2.1 ?_⟩) h2;rw [Array.setIfInBounds_comm _ _ l];exact R.2.2
def Way (p:Prop):Prop:=p
theorem Way.z {p:Prop} (h:Way p):p:=h
def walk (T:Nat->Prop) (P:Program) (ops:Array Oper) (Q:Exit->Act->World->Prop) (E:Act->World->Prop):List (Option Oper×Bool)->Act->World->Prop
 | [],a,w=>E a w
 | (some o,true)::rest,a,w=>∃v,YieldsIf P ops (Kep T w) o v a/\walk T P ops Q E rest (a.put o.dst v) w
 | (some o,false)::rest,a,w=>∀K:Act->World->Prop,(∀b w',Kep T w w'->walk T P ops Q E rest b w'->K b w')->if Region.wanted o (yielded ops a.tmps)=true then o.wp P a w K Q else K (a.put o.dst undef) w
 | (none,_)::_,_,_=>False
def Zt (ops:Array Oper) (l:List (Nat×Bool)):List (Option Oper×Bool):=l.map fun p=>(ops[p.1]?,p.2)
def Z9 (md:Region.Mode) (ops:Array Oper) (n g:Nat):List (Nat×Bool)->Array Bool->Bool
 | [],listed=>Region.seqB md ops g n listed
 | (i,true)::rest,listed=>Region.free md ops listed i&&(Region.ready md ops listed).contains i&&decide (i<n)&&Z9 md ops n g rest (listed.setIfInBounds i true)
 | (i,false)::rest,listed=>(Region.ready md ops listed == [i])&&decide (i<n)&&Z9 md ops n g rest (listed.setIfInBounds i true)
theorem Zny {S S':World->Prop} (d:∀w,S' w->S w) {L:Array Bool->Act->World->Prop}:∀(f:Nat) (b:Array Bool) (a:Act) (w:World),HL P md ops Q S' n L f b a w->HL P md ops Q S n L f b a w
 | 0,_,_,_,h=>h
 | f+1,_,_,_,h=>⟨h.1,fun i hi=>⟨(h.2 i hi).1,wpOp_mono (fun e w' c=>⟨d _ c.1,Zny d f _ e w' c.2⟩) (h.2 i hi).2⟩⟩
theorem Zij {T:Nat->Prop} {E:Act->World->Prop} (p:Region.noSelect ops=true) (hs:Region.sinkB md ops n=true) (y:Region.chainB md ops n=true) (z:n<ops.size)
  (x:∀c a d v w,Q (.panic c) (Act.put a d v) w->Q (.panic c) a w) :
  ∀(l:List (Nat×Bool)) (e:Array Bool) (a:Act) (w:World),Z9 md ops n g l e=true->HeadInv md ops n e->walk T P ops Q E (Zt ops l) a w ->
    HL P md ops Q (Kep T w) n (fun f t w'=>Region.seqB md ops g n f=true/\E t w') l.length e a w
 | [],e,a,w,hp,inv,h=>⟨hp,h⟩
 | (i,b)::rest,e,a,w,hp,inv,h=>by
   have s:walk T P ops Q E ((ops[i]?,b)::Zt ops rest) a w:=h;cases ho:ops[i]? with
   | none=>rw [ho] at s;cases b<;>exact s.elim
   | some o =>
     rw [ho] at s;cases b with
     | true =>
       obtain ⟨v,G,C⟩:=s;simp only [Z9,Xw,Xg] at hp;obtain ⟨⟨⟨hf,r⟩,q⟩,m⟩:=hp;have k:i∈Region.ready md ops e:=by simpa using r
       exact first ho (Region.noSelect_spec p) hs y z q (fun c a w=>x c a _ _ w) (fun f t w' B=>seqB_ready B.1) rest.length e a w inv (Region.free_spec ho hf) k G (Kep.refl _ w)
        (Zij p hs y z x rest _ _ _ m (inv.set k q) C)
     | false =>
       simp only [Z9,Xw,Xg] at hp;obtain ⟨⟨r,q⟩,m⟩:=hp;have k:Region.ready md ops e=[i]:=by simpa using r
       refine ⟨by rw [k];simp,fun j u => ?_⟩;obtain rfl:j=i:=by rw [k] at u;simpa using u
       refine ⟨q,wpOp_step ho (fun K H=>s K (fun t w' A F=>H t w' ⟨A,Zny (fun W D=>A.trans D) _ _ _ _ (Zij p hs y z x rest _ _ _ m (inv.set u q) F)⟩))⟩
def ZCb (ops:Array Oper) (l:List (Nat×Bool)):Bool :=
 Region.noSelect ops&&decide (l.length<ops.size)&&Region.sinkB .any ops l.length&&Region.chainB .any ops l.length&&Z9 .any ops l.length (ops.size - l.length) l (Array.replicate ops.size false)
theorem Zal {T:Nat->Prop} (l:List (Nat×Bool)) {id:Nat} (z:P.follows .mixedOrders=true) (p:ZCb ops l=true) (y:∀c a d v w,Q (.panic c) (Act.put a d v) w->Q (.panic c) a w)
  (h:walk T P ops Q (fun k w'=>wpList P ops Q (ops.toList.drop l.length) k w') (Zt ops l) a w.drew):(Code.region id ops true).wp P Q a w:=by
 simp only [ZCb,Xw,Xg] at p;obtain ⟨⟨⟨⟨f,x⟩,hs⟩,s⟩,u⟩:=p
 have i:HeadInv .any ops l.length (Array.replicate ops.size false) :=
  ⟨by simp,fun j oj _ m=>(by rw [getD_replicate_false] at m;cases m),fun t _ r=>getD_in (by simpa using r) (getD_replicate_false _ _)⟩
 have H:=Zij (md:=.any) f hs s x y l (Array.replicate ops.size false) a w.drew u i h;refine wp_region_any z ?_;have e:(ops.toList.drop l.length).length=ops.size - l.length:=by simp
 have:=Zku (Q:=Q) (g:=ops.size - l.length) (fun b k w' q=>by
  have:=wpAny_of_seq (md:=.any) (Q':=Q) (ops:=ops) (ops.toList.drop l.length) l.length b k w' (fun j=>by simp [Xbe]) (by rw [e];exact q.1) q.2
  rwa [e] at this) _ _ _ _ H
 rw [show l.length+(ops.size - l.length)=ops.size by omega] at this;exact this
variable {T : Nat -> Prop} {E : Act -> World -> Prop}
theorem take {rest:List (Option Oper×Bool)} (b:Region.wanted o (yielded ops a.tmps)=true)
  (c:∀W,Kep T w W->(execOp a.eval o).run P W=.ok (.value v) W) (h:walk T P ops Q E rest (a.put o.dst v) w):walk T P ops Q E ((some o,true)::rest) a w :=
 ⟨v,.inl ⟨b,c⟩,h⟩
theorem alone {rest:List (Option Oper×Bool)} (c:Region.wanted o (yielded ops a.tmps)=true)
  (h:∀K:Act->World->Prop,Way (∀b w',Kep T w w'->walk T P ops Q E rest b w'->K b w')->o.wp P a w K Q):walk T P ops Q E ((some o,false)::rest) a w:=by
 intro K d;rw [Xe c];exact h K d
theorem done (h:E a w):walk T P ops Q E [] a w:=h
end
