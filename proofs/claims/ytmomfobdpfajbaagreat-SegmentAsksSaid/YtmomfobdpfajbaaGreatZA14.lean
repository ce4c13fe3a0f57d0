import Derived.Test.YtmomfobdpfajbaaGreatZA2
import Derived.OrdersHeld
set_option maxRecDepth 100000
set_option maxHeartbeats 0
set_option linter.unusedVariables false
set_option linter.unusedSimpArgs false
namespace Go.Proofs.YtmomfobdpfajbaaGreat
namespace RT
open RowKit MM
variable {a:Act} {w:World} {o:Oper}
inductive Plan (α:Type) where
 | done:Plan α
 | take (i:α) (r:Plan α):Plan α
 | alone (i:α) (r:Plan α):Plan α
 | both (i j:α) (r s:Plan α):Plan α
def Plan.len {α:Type}:Plan α->Nat
 | .done=>0
 | .take _ r=>r.len+1
 | .alone _ r=>r.len+1
 | .both _ _ r _=>r.len+1
section
variable {T : Nat -> Prop} {P : Program} {ops : Array Oper} {Q : Exit -> Act -> World -> Prop} {md : Region.Mode}
theorem Zbb {S S':World->Prop} (d:∀w,S' w->S w):∀(b:Nat) (c:Array Bool) (a:Act) (w:World),wpAnyH P md ops Q S' b c a w->wpAnyH P md ops Q S b c a w
 | 0,_,_,_,h=>h
 | b+1,_,_,_,h=>⟨h.1,fun i hi=>wpOp_mono (fun f w' e=>⟨d _ e.1,Zbb d b _ f w' e.2⟩) (h.2 i hi)⟩
def Way (p:Prop):Prop:=p
theorem Way.z {p:Prop} (h:Way p):p:=h
def Step (T:Nat->Prop) (P:Program) (ops:Array Oper) (Q:Exit->Act->World->Prop) (o:Option Oper) (N:Act->World->Prop) (a:Act) (w:World):Prop :=
 match o with
 | some o=>∀K:Act->World->Prop,(∀b w',Kep T w w'->N b w'->K b w')->if Region.wanted o (yielded ops a.tmps)=true then o.wp P a w K Q else K (a.put o.dst undef) w
 | none=>False
def walk (T:Nat->Prop) (P:Program) (ops:Array Oper) (Q:Exit->Act->World->Prop):Plan (Option Oper)->Act->World->Prop
 | .done,a,w=>Q .normal a w
 | .take (some o) r,a,w=>∃v,YieldsIf P ops (Kep T w) o v a/\walk T P ops Q r (a.put o.dst v) w
 | .take none _,_,_=>False
 | .alone o r,a,w=>Step T P ops Q o (walk T P ops Q r) a w
 | .both o o' r s,a,w=>Step T P ops Q o (walk T P ops Q r) a w/\Step T P ops Q o' (walk T P ops Q s) a w
def Zt (ops:Array Oper):Plan Nat->Plan (Option Oper)
 | .done=>.done
 | .take i r=>.take ops[i]? (Zt ops r)
 | .alone i r=>.alone ops[i]? (Zt ops r)
 | .both i j r s=>.both ops[i]? ops[j]? (Zt ops r) (Zt ops s)
def Z9 (md:Region.Mode) (ops:Array Oper):Plan Nat->Array Bool->Bool
 | .done,listed=>(Region.ready md ops listed).isEmpty
 | .take i r,listed=>Region.free md ops listed i&&(Region.ready md ops listed).contains i&&Z9 md ops r (listed.setIfInBounds i true)
 | .alone i r,listed=>(Region.ready md ops listed == [i])&&Z9 md ops r (listed.setIfInBounds i true)
 | .both i j r s,listed=>(Region.ready md ops listed == [i,j])&&(r.len == s.len)&&Z9 md ops r (listed.setIfInBounds i true)&&Z9 md ops s (listed.setIfInBounds j true)
theorem Zao (hs:Region.noSelect ops=true) (q:∀c a d v w,Q (.panic c) (Act.put a d v) w->Q (.panic c) a w) :
  ∀(l:Plan Nat) (b:Array Bool) (a:Act) (w:World),Z9 md ops l b=true->walk T P ops Q (Zt ops l) a w->wpAnyH P md ops Q (Kep T w) l.len b a w
 | .done,b,a,w,hp,h=>⟨by simpa [Z9] using hp,h⟩
 | .take i r,b,a,w,hp,h=>by
   have e:walk T P ops Q (.take ops[i]? (Zt ops r)) a w:=h;cases ho:ops[i]? with
   | none=>rw [ho] at e;exact e.elim
   | some o =>
     rw [ho] at e;obtain ⟨v,y,z⟩:=e;simp only [Z9,Xw] at hp;exact wpAnyH_take ho hs hp.1.1 hp.1.2 (fun c a w=>q c a _ _ w) y (Kep.refl _ w) (Zao hs q r _ _ _ hp.2 z)
 | .alone i r,b,a,w,hp,h=>by
   have e:Step T P ops Q ops[i]? (walk T P ops Q (Zt ops r)) a w:=h;cases ho:ops[i]? with
   | none=>rw [ho] at e;exact e.elim
   | some o =>
     rw [ho] at e;simp only [Z9,Xw] at hp;refine wpAnyH_all (rs:=[i]) (by simpa using hp.1) (by simp) (fun j A => ?_);obtain rfl:j=i:=by simpa using A
     exact wpOp_step ho (fun K n=>e K (fun p w' f g=>n p w' ⟨f,Zbb (fun W t=>f.trans t) _ _ _ _ (Zao hs q r _ _ _ hp.2 g)⟩))
 | .both i j r s,b,a,w,hp,h=>by
   have e:Step T P ops Q ops[i]? (walk T P ops Q (Zt ops r)) a w/\Step T P ops Q ops[j]? (walk T P ops Q (Zt ops s)) a w:=h;obtain ⟨f,g⟩:=e;simp only [Z9,Xw,Xaj] at hp;cases ho:ops[i]? with
   | none=>rw [ho] at f;exact f.elim
   | some o =>
     cases ho':ops[j]? with
     | none=>rw [ho'] at g;exact g.elim
     | some o' =>
       rw [ho] at f;rw [ho'] at g;refine wpAnyH_all (rs:=[i,j]) (by simpa using hp.1.1.1) (by simp) (fun k x => ?_);simp only [XT,Xbk,or_false] at x;rcases x with rfl|rfl
       ·exact wpOp_step ho (fun K n=>f K (fun p w' m u=>n p w' ⟨m,Zbb (fun W t=>m.trans t) _ _ _ _ (Zao hs q r _ _ _ hp.1.2 u)⟩))
       ·refine wpOp_step ho' (fun K n=>g K (fun p w' m u=>n p w' ⟨m,Zbb (fun W t=>m.trans t) _ _ _ _ ?_⟩));rw [hp.1.1.2];exact Zao hs q s _ _ _ hp.2 u
theorem Zal (l:Plan Nat) {id:Nat} (f:P.follows .mixedOrders=true) (hs:Region.noSelect ops=true) (b:l.len=ops.size)
  (e:Z9 .any ops l (Array.replicate ops.size false)=true) (g:∀c a d v w,Q (.panic c) (Act.put a d v) w->Q (.panic c) a w)
  (h:walk T P ops Q (Zt ops l) a w.drew):(Code.region id ops true).wp P Q a w:=by
 refine wp_region_held (S:=Kep T w.drew) f ?_;rw [<- b];have:=Zao (md:=.any) hs g l (Array.replicate ops.size false) a w.drew e h;rw [<- b] at this;exact this
theorem take {r:Plan (Option Oper)} {v:Value} (b:Region.wanted o (yielded ops a.tmps)=true)
  (c:∀W,Kep T w W->(execOp a.eval o).run P W=.ok (.value v) W) (h:walk T P ops Q r (a.put o.dst v) w):walk T P ops Q (.take (some o) r) a w :=
 ⟨v,.inl ⟨b,c⟩,h⟩
theorem step {N:Act->World->Prop} (c:Region.wanted o (yielded ops a.tmps)=true)
  (h:∀K:Act->World->Prop,Way (∀b w',Kep T w w'->N b w'->K b w')->o.wp P a w K Q):Step T P ops Q (some o) N a w:=by
 intro K d;rw [Xe c];exact h K d
theorem alone {r:Plan (Option Oper)} (h:Step T P ops Q (some o) (walk T P ops Q r) a w):walk T P ops Q (.alone (some o) r) a w:=h
theorem both {r s:Plan (Option Oper)} {b:Oper} (h:Step T P ops Q (some o) (walk T P ops Q r) a w) (c:Step T P ops Q (some b) (walk T P ops Q s) a w):walk T P ops Q (.both (some o) (some b) r s) a w:=⟨h,c⟩
theorem done (h:Q .normal a w):walk T P ops Q .done a w:=h
end
end RT
namespace RG
open RowKit
variable {w:World} {o:Oper}
section
variable {P : Program} {ops : Array Oper} {Q : Exit -> Act -> World -> Prop} {md : Region.Mode}
def Za4 (w w':World):Prop:=Below w.heap.size w w'
theorem Za4.refl (w:World):Za4 w w:=Below.refl _ w
theorem Za4.trans {a b c:World} (h:Za4 a b) (k:Za4 b c):Za4 a c:=Below.trans h (Below.mono k h.size)
theorem Zbb {S S':World->Prop} (d:∀w,S' w->S w):∀(b:Nat) (c:Array Bool) (a:Act) (w:World),wpAnyH P md ops Q S' b c a w->wpAnyH P md ops Q S b c a w
 | 0,_,_,_,h=>h
 | b+1,_,_,_,h=>⟨h.1,fun i hi=>wpOp_mono (fun f w' e=>⟨d _ e.1,Zbb d b _ f w' e.2⟩) (h.2 i hi)⟩
def Way (p:Prop):Prop:=p
theorem Way.z {p:Prop} (h:Way p):p:=h
def walk (P:Program) (ops:Array Oper) (Q:Exit->Act->World->Prop):List (Option Oper×Bool)->Act->World->Prop
 | [],a,w=>Q .normal a w
 | (some o,true)::rest,a,w=>∃v,YieldsIf P ops (Za4 w) o v a/\walk P ops Q rest (a.put o.dst v) w
 | (some o,false)::rest,a,w=>∀K:Act->World->Prop,(∀b w',Za4 w w'->walk P ops Q rest b w'->K b w')->if Region.wanted o (yielded ops a.tmps)=true then o.wp P a w K Q else K (a.put o.dst undef) w
 | (none,_)::_,_,_=>False
def Zt (ops:Array Oper) (l:List (Nat×Bool)):List (Option Oper×Bool):=l.map fun p=>(ops[p.1]?,p.2)
def Z9 (md:Region.Mode) (ops:Array Oper):List (Nat×Bool)->Array Bool->Bool
 | [],listed=>(Region.ready md ops listed).isEmpty
 | (i,true)::rest,listed=>Region.free md ops listed i&&(Region.ready md ops listed).contains i&&Z9 md ops rest (listed.setIfInBounds i true)
 | (i,false)::rest,listed=>(Region.ready md ops listed == [i])&&Z9 md ops rest (listed.setIfInBounds i true)
theorem Zao (hs:Region.noSelect ops=true) (g:∀c a d v w,Q (.panic c) (Act.put a d v) w->Q (.panic c) a w) :
  ∀(l:List (Nat×Bool)) (e:Array Bool) (a:Act) (w:World),Z9 md ops l e=true->walk P ops Q (Zt ops l) a w->wpAnyH P md ops Q (Za4 w) l.length e a w
 | [],e,a,w,hp,h=>⟨by simpa [Z9] using hp,h⟩
 | (i,b)::rest,e,a,w,hp,h=>by
   have f:walk P ops Q ((ops[i]?,b)::Zt ops rest) a w:=h;cases ho:ops[i]? with
   | none=>rw [ho] at f;cases b<;>exact f.elim
   | some o =>
     rw [ho] at f;cases b with
     | true =>
       obtain ⟨v,m,p⟩:=f;simp only [Z9,Xw] at hp;exact wpAnyH_take ho hs hp.1.1 hp.1.2 (fun c a w=>g c a _ _ w) m (Za4.refl w) (Zao hs g rest _ _ _ hp.2 p)
     | false =>
       simp only [Z9,Xw] at hp;refine wpAnyH_all (rs:=[i]) (by simpa using hp.1) (by simp) (fun j q => ?_);obtain rfl:j=i:=by simpa using q
       exact wpOp_step ho (fun K n=>f K (fun r w' k t=>n r w' ⟨k,Zbb (fun W s=>Za4.trans k s) _ _ _ _ (Zao hs g rest _ _ _ hp.2 t)⟩))
theorem Zal (l:List (Nat×Bool)) {id:Nat} {a:Act} (f:P.follows .mixedOrders=true) (hs:Region.noSelect ops=true) (b:l.length=ops.size)
  (e:Z9 .any ops l (Array.replicate ops.size false)=true) (g:∀c a d v w,Q (.panic c) (Act.put a d v) w->Q (.panic c) a w)
  (h:walk P ops Q (Zt ops l) a w.drew):(Code.region id ops true).wp P Q a w:=by
 refine wp_region_held (S:=Za4 w.drew) f ?_;rw [<- b];have:=Zao (md:=.any) hs g l (Array.replicate ops.size false) a w.drew e h;rw [<- b] at this;exact this
theorem take {rest:List (Option Oper×Bool)} {a:Act} {v:Value} (b:Region.wanted o (yielded ops a.tmps)=true)
  (c:∀W,Za4 w W->(execOp a.eval o).run P W=.ok (.value v) W) (h:walk P ops Q rest (a.put o.dst v) w):walk P ops Q ((some o,true)::rest) a w :=
 ⟨v,.inl ⟨b,c⟩,h⟩
theorem skip {rest:List (Option Oper×Bool)} {a:Act} (b:Region.wanted o (yielded ops a.tmps)=false)
  (h:walk P ops Q rest (a.put o.dst undef) w):walk P ops Q ((some o,true)::rest) a w :=
 ⟨undef,.inr ⟨b,rfl⟩,h⟩
theorem alone {rest:List (Option Oper×Bool)} {a:Act} (c:Region.wanted o (yielded ops a.tmps)=true)
  (h:∀K:Act->World->Prop,Way (∀b w',Za4 w w'->walk P ops Q rest b w'->K b w')->o.wp P a w K Q):walk P ops Q ((some o,false)::rest) a w:=by
 intro K d;rw [Xe c];exact h K d
theorem Zab {rest:List (Option Oper×Bool)} {a:Act} (b:Region.wanted o (yielded ops a.tmps)=false)
  (h:walk P ops Q rest (a.put o.dst undef) w):walk P ops Q ((some o,false)::rest) a w:=by
 intro K c;rw [Xc (by rw [b];exact Xbo)];exact c _ _ (Za4.refl w) h
theorem done {a:Act} (h:Q .normal a w):walk P ops Q [] a w:=h
end
end RG
namespace RK
open RowKit MM
variable {a:Act} {w:World} {o:Oper}
section
variable {T : Nat -> Prop} {P : Program} {ops : Array Oper} {Q : Exit -> Act -> World -> Prop} {md : Region.Mode}
theorem Zbb {S S':World->Prop} (d:∀w,S' w->S w):∀(b:Nat) (c:Array Bool) (a:Act) (w:World),wpAnyH P md ops Q S' b c a w->wpAnyH P md ops Q S b c a w
 | 0,_,_,_,h=>h
 | b+1,_,_,_,h=>⟨h.1,fun i hi=>wpOp_mono (fun f w' e=>⟨d _ e.1,Zbb d b _ f w' e.2⟩) (h.2 i hi)⟩
def Way (p:Prop):Prop:=p
theorem Way.z {p:Prop} (h:Way p):p:=h
def walk (T:Nat->Prop) (P:Program) (ops:Array Oper) (Q:Exit->Act->World->Prop):List (Option Oper×Bool)->Act->World->Prop
 | [],a,w=>Q .normal a w
 | (some o,true)::rest,a,w=>∃v,YieldsIf P ops (Kep T w) o v a/\walk T P ops Q rest (a.put o.dst v) w
 | (some o,false)::rest,a,w=>∀K:Act->World->Prop,(∀b w',Kep T w w'->walk T P ops Q rest b w'->K b w')->if Region.wanted o (yielded ops a.tmps)=true then o.wp P a w K Q else K (a.put o.dst undef) w
 | (none,_)::_,_,_=>False
def Zt (ops:Array Oper) (l:List (Nat×Bool)):List (Option Oper×Bool):=l.map fun p=>(ops[p.1]?,p.2)
def Z9 (md:Region.Mode) (ops:Array Oper):List (Nat×Bool)->Array Bool->Bool
 | [],listed=>(Region.ready md ops listed).isEmpty
 | (i,true)::rest,listed=>Region.free md ops listed i&&(Region.ready md ops listed).contains i&&Z9 md ops rest (listed.setIfInBounds i true)
 | (i,false)::rest,listed=>(Region.ready md ops listed == [i])&&Z9 md ops rest (listed.setIfInBounds i true)
theorem Zao (hs:Region.noSelect ops=true) (g:∀c a d v w,Q (.panic c) (Act.put a d v) w->Q (.panic c) a w) :
  ∀(l:List (Nat×Bool)) (e:Array Bool) (a:Act) (w:World),Z9 md ops l e=true->walk T P ops Q (Zt ops l) a w->wpAnyH P md ops Q (Kep T w) l.length e a w
 | [],e,a,w,hp,h=>⟨by simpa [Z9] using hp,h⟩
 | (i,b)::rest,e,a,w,hp,h=>by
   have f:walk T P ops Q ((ops[i]?,b)::Zt ops rest) a w:=h;cases ho:ops[i]? with
   | none=>rw [ho] at f;cases b<;>exact f.elim
   | some o =>
     rw [ho] at f;cases b with
     | true =>
       obtain ⟨v,m,p⟩:=f;simp only [Z9,Xw] at hp;exact wpAnyH_take ho hs hp.1.1 hp.1.2 (fun c a w=>g c a _ _ w) m (Kep.refl _ w) (Zao hs g rest _ _ _ hp.2 p)
     | false =>
       simp only [Z9,Xw] at hp;refine wpAnyH_all (rs:=[i]) (by simpa using hp.1) (by simp) (fun j q => ?_);obtain rfl:j=i:=by simpa using q
       exact wpOp_step ho (fun K n=>f K (fun r w' k t=>n r w' ⟨k,Zbb (fun W s=>k.trans s) _ _ _ _ (Zao hs g rest _ _ _ hp.2 t)⟩))
theorem Zal (l:List (Nat×Bool)) {id:Nat} (f:P.follows .mixedOrders=true) (hs:Region.noSelect ops=true) (b:l.length=ops.size)
  (e:Z9 .any ops l (Array.replicate ops.size false)=true) (g:∀c a d v w,Q (.panic c) (Act.put a d v) w->Q (.panic c) a w)
  (h:walk T P ops Q (Zt ops l) a w.drew):(Code.region id ops true).wp P Q a w:=by
 refine wp_region_held (S:=Kep T w.drew) f ?_;rw [<- b];have:=Zao (md:=.any) hs g l (Array.replicate ops.size false) a w.drew e h;rw [<- b] at this;exact this
theorem take {rest:List (Option Oper×Bool)} {v:Value} (b:Region.wanted o (yielded ops a.tmps)=true)
  (c:∀W,Kep T w W->(execOp a.eval o).run P W=.ok (.value v) W) (h:walk T P ops Q rest (a.put o.dst v) w):walk T P ops Q ((some o,true)::rest) a w :=
 ⟨v,.inl ⟨b,c⟩,h⟩
theorem alone {rest:List (Option Oper×Bool)} (c:Region.wanted o (yielded ops a.tmps)=true)
  (h:∀K:Act->World->Prop,Way (∀b w',Kep T w w'->walk T P ops Q rest b w'->K b w')->o.wp P a w K Q):walk T P ops Q ((some o,false)::rest) a w:=by
 intro K d;rw [Xe c];exact h K d
theorem done (h:Q .normal a w):walk T P ops Q [] a w:=h
end
