import Derived.Test.YtdijhifdjbnkfaaGreatZT2
import Derived.OrdersHeld
set_option maxRecDepth 100000
set_option maxHeartbeats 0
set_option linter.unusedVariables false
set_option linter.unusedSimpArgs false
namespace Go.Proofs.YtdijhifdjbnkfaaGreat
namespace RT
open RowKit MM
variable {a:Act} {w:World} {o:Oper}
inductive Plan (α:Type) where
 | done:Plan α
 | take (i:α) (r:Plan α):Plan α
 | alone (i:α) (r:Plan α):Plan α
 | both (i j:α) (r s:Plan α):Plan α
def Plan.len {α:Type}:Plan α->Nat
 | .done=>0
 | .take _ r=>r.len+1
 | .alone _ r=>r.len+1
 | .both _ _ r _=>r.len+1
section
variable {T : Nat -> Prop} {P : Program} {ops : Array Oper} {Q : Exit -> Act -> World -> Prop} {md : Region.Mode}
theorem Za8 {S S':World->Prop} (e:∀w,S' w->S w):∀(b:Nat) (c:Array Bool) (a:Act) (w:World),wpAnyH P md ops Q S' b c a w->wpAnyH P md ops Q S b c a w
 | 0,_,_,_,h=>h
 | b+1,_,_,_,h=>⟨h.1,fun i hi=>wpOp_mono (fun f w' d=>⟨e _ d.1,Za8 e b _ f w' d.2⟩) (h.2 i hi)⟩
def Way (p:Prop):Prop:=p
theorem Way.out {p:Prop} (h:Way p):p:=h
def Step (T:Nat->Prop) (P:Program) (ops:Array Oper) (Q:Exit->Act->World->Prop) (o:Option Oper) (N:Act->World->Prop) (a:Act) (w:World):Prop :=
 match o with
 | some o=>∀K:Act->World->Prop,(∀b w',Kep T w w'->N b w'->K b w')->if Region.wanted o (yielded ops a.tmps)=true then o.wp P a w K Q else K (a.put o.dst undef) w
 | none=>False
def walk (T:Nat->Prop) (P:Program) (ops:Array Oper) (Q:Exit->Act->World->Prop):Plan (Option Oper)->Act->World->Prop
 | .done,a,w=>Q .normal a w
 | .take (some o) r,a,w=>∃v,YieldsIf P ops (Kep T w) o v a/\walk T P ops Q r (a.put o.dst v) w
 | .take none _,_,_=>False
 | .alone o r,a,w=>Step T P ops Q o (walk T P ops Q r) a w
 | .both o o' r s,a,w=>Step T P ops Q o (walk T P ops Q r) a w/\Step T P ops Q o' (walk T P ops Q s) a w
def Zy (ops:Array Oper):Plan Nat->Plan (Option Oper)
 | .done=>.done
 | .take i r=>.take ops[i]? (Zy ops r)
 | .alone i r=>.alone ops[i]? (Zy ops r)
 | .both i j r s=>.both ops[i]? ops[j]? (Zy ops r) (Zy ops s)
def Z7 (md:Region.Mode) (ops:Array Oper):Plan Nat->Array Bool->Bool
 | .done,listed=>(Region.ready md ops listed).isEmpty
 | .take i r,listed=>Region.free md ops listed i&&(Region.ready md ops listed).contains i&&Z7 md ops r (listed.setIfInBounds i true)
 | .alone i r,listed=>(Region.ready md ops listed == [i])&&Z7 md ops r (listed.setIfInBounds i true)
 | .both i j r s,listed=>(Region.ready md ops listed == [i,j])&&(r.len == s.len)&&Z7 md ops r (listed.setIfInBounds i true)&&Z7 md ops s (listed.setIfInBounds j true)
theorem Zal (hs:Region.noSelect ops=true) (p:∀c a d v w,Q (.panic c) (Act.put a d v) w->Q (.panic c) a w) :
  ∀(l:Plan Nat) (b:Array Bool) (a:Act) (w:World),Z7 md ops l b=true->walk T P ops Q (Zy ops l) a w->wpAnyH P md ops Q (Kep T w) l.len b a w
 | .done,b,a,w,hp,h=>⟨by simpa [Z7] using hp,h⟩
 | .take i r,b,a,w,hp,h=>by
   have e:walk T P ops Q (.take ops[i]? (Zy ops r)) a w:=h;cases ho:ops[i]? with
   | none=>rw [ho] at e;exact e.elim
   | some o =>
     rw [ho] at e;obtain ⟨v,A,y⟩:=e;simp only [Z7,Xy] at hp;exact wpAnyH_take ho hs hp.1.1 hp.1.2 (fun c a w=>p c a _ _ w) A (Kep.refl _ w) (Zal hs p r _ _ _ hp.2 y)
 | .alone i r,b,a,w,hp,h=>by
   have e:Step T P ops Q ops[i]? (walk T P ops Q (Zy ops r)) a w:=h;cases ho:ops[i]? with
   | none=>rw [ho] at e;exact e.elim
   | some o =>
     rw [ho] at e;simp only [Z7,Xy] at hp;refine wpAnyH_all (rs:=[i]) (by simpa using hp.1) (by simp) (fun j z => ?_);obtain rfl:j=i:=by simpa using z
     exact wpOp_step ho (fun K t=>e K (fun n w' f g=>t n w' ⟨f,Za8 (fun W q=>f.trans q) _ _ _ _ (Zal hs p r _ _ _ hp.2 g)⟩))
 | .both i j r s,b,a,w,hp,h=>by
   have e:Step T P ops Q ops[i]? (walk T P ops Q (Zy ops r)) a w/\Step T P ops Q ops[j]? (walk T P ops Q (Zy ops s)) a w:=h;obtain ⟨f,g⟩:=e;simp only [Z7,Xy,Xan] at hp;cases ho:ops[i]? with
   | none=>rw [ho] at f;exact f.elim
   | some o =>
     cases ho':ops[j]? with
     | none=>rw [ho'] at g;exact g.elim
     | some o' =>
       rw [ho] at f;rw [ho'] at g;refine wpAnyH_all (rs:=[i,j]) (by simpa using hp.1.1.1) (by simp) (fun k x => ?_);simp only [XS,Xbi,or_false] at x;rcases x with rfl|rfl
       ·exact wpOp_step ho (fun K t=>f K (fun n w' m u=>t n w' ⟨m,Za8 (fun W q=>m.trans q) _ _ _ _ (Zal hs p r _ _ _ hp.1.2 u)⟩))
       ·refine wpOp_step ho' (fun K t=>g K (fun n w' m u=>t n w' ⟨m,Za8 (fun W q=>m.trans q) _ _ _ _ ?_⟩));rw [hp.1.1.2];exact Zal hs p s _ _ _ hp.2 u
theorem ZaF (l:Plan Nat) {id:Nat} (f:P.follows .mixedOrders=true) (hs:Region.noSelect ops=true) (b:l.len=ops.size)
  (g:Z7 .any ops l (Array.replicate ops.size false)=true) (e:∀c a d v w,Q (.panic c) (Act.put a d v) w->Q (.panic c) a w)
  (h:walk T P ops Q (Zy ops l) a w.drew):(Code.region id ops true).wp P Q a w:=by
 refine wp_region_held (S:=Kep T w.drew) f ?_;rw [<- b];have:=Zal (md:=.any) hs e l (Array.replicate ops.size false) a w.drew g h;rw [<- b] at this;exact this
theorem take {r:Plan (Option Oper)} {v:Value} (c:Region.wanted o (yielded ops a.tmps)=true)
  (b:∀W,Kep T w W->(execOp a.eval o).run P W=.ok (.value v) W) (h:walk T P ops Q r (a.put o.dst v) w):walk T P ops Q (.take (some o) r) a w :=
 ⟨v,.inl ⟨c,b⟩,h⟩
theorem step {N:Act->World->Prop} (d:Region.wanted o (yielded ops a.tmps)=true)
  (h:∀K:Act->World->Prop,Way (∀b w',Kep T w w'->N b w'->K b w')->o.wp P a w K Q):Step T P ops Q (some o) N a w:=by
 intro K c;rw [Xe d];exact h K c
theorem alone {r:Plan (Option Oper)} (h:Step T P ops Q (some o) (walk T P ops Q r) a w):walk T P ops Q (.alone (some o) r) a w:=h
theorem both {r s:Plan (Option Oper)} {b:Oper} (h:Step T P ops Q (some o) (walk T P ops Q r) a w) (c:Step T P ops Q (some b) (walk T P ops Q s) a w):walk T P ops Q (.both (some o) (some b) r s) a w:=⟨h,c⟩
theorem done (h:Q .normal a w):walk T P ops Q .done a w:=h
end
end RT
namespace RG
open RowKit
variable {w:World} {o:Oper}
section
variable {P : Program} {ops : Array Oper} {Q : Exit -> Act -> World -> Prop} {md : Region.Mode}
def Zbo (w w':World):Prop:=Below w.heap.size w w'
theorem Zbo.refl (w:World):Zbo w w:=Below.refl _ w
theorem Zbo.trans {a b c:World} (h:Zbo a b) (k:Zbo b c):Zbo a c:=Below.trans h (Below.mono k h.size)
theorem Za8 {S S':World->Prop} (e:∀w,S' w->S w):∀(b:Nat) (c:Array Bool) (a:Act) (w:World),wpAnyH P md ops Q S' b c a w->wpAnyH P md ops Q S b c a w
 | 0,_,_,_,h=>h
 | b+1,_,_,_,h=>⟨h.1,fun i hi=>wpOp_mono (fun f w' d=>⟨e _ d.1,Za8 e b _ f w' d.2⟩) (h.2 i hi)⟩
def Way (p:Prop):Prop:=p
theorem Way.out {p:Prop} (h:Way p):p:=h
def walk (P:Program) (ops:Array Oper) (Q:Exit->Act->World->Prop):List (Option Oper×Bool)->Act->World->Prop
 | [],a,w=>Q .normal a w
 | (some o,true)::rest,a,w=>∃v,YieldsIf P ops (Zbo w) o v a/\walk P ops Q rest (a.put o.dst v) w
 | (some o,false)::rest,a,w=>∀K:Act->World->Prop,(∀b w',Zbo w w'->walk P ops Q rest b w'->K b w')->if Region.wanted o (yielded ops a.tmps)=true then o.wp P a w K Q else K (a.put o.dst undef) w
 | (none,_)::_,_,_=>False
def Zy (ops:Array Oper) (l:List (Nat×Bool)):List (Option Oper×Bool):=l.map fun p=>(ops[p.1]?,p.2)
def Z7 (md:Region.Mode) (ops:Array Oper):List (Nat×Bool)->Array Bool->Bool
 | [],listed=>(Region.ready md ops listed).isEmpty
 | (i,true)::rest,listed=>Region.free md ops listed i&&(Region.ready md ops listed).contains i&&Z7 md ops rest (listed.setIfInBounds i true)
 | (i,false)::rest,listed=>(Region.ready md ops listed == [i])&&Z7 md ops rest (listed.setIfInBounds i true)
theorem Zal (hs:Region.noSelect ops=true) (g:∀c a d v w,Q (.panic c) (Act.put a d v) w->Q (.panic c) a w) :
  ∀(l:List (Nat×Bool)) (e:Array Bool) (a:Act) (w:World),Z7 md ops l e=true->walk P ops Q (Zy ops l) a w->wpAnyH P md ops Q (Zbo w) l.length e a w
 | [],e,a,w,hp,h=>⟨by simpa [Z7] using hp,h⟩
 | (i,b)::rest,e,a,w,hp,h=>by
   have f:walk P ops Q ((ops[i]?,b)::Zy ops rest) a w:=h;cases ho:ops[i]? with
   | none=>rw [ho] at f;cases b<;>exact f.elim
   | some o =>
     rw [ho] at f;cases b with
     | true =>
       obtain ⟨v,p,m⟩:=f;simp only [Z7,Xy] at hp;exact wpAnyH_take ho hs hp.1.1 hp.1.2 (fun c a w=>g c a _ _ w) p (Zbo.refl w) (Zal hs g rest _ _ _ hp.2 m)
     | false =>
       simp only [Z7,Xy] at hp;refine wpAnyH_all (rs:=[i]) (by simpa using hp.1) (by simp) (fun j n => ?_);obtain rfl:j=i:=by simpa using n
       exact wpOp_step ho (fun K s=>f K (fun q w' k t=>s q w' ⟨k,Za8 (fun W r=>Zbo.trans k r) _ _ _ _ (Zal hs g rest _ _ _ hp.2 t)⟩))
theorem ZaF (l:List (Nat×Bool)) {id:Nat} {a:Act} (f:P.follows .mixedOrders=true) (hs:Region.noSelect ops=true) (b:l.length=ops.size)
  (g:Z7 .any ops l (Array.replicate ops.size false)=true) (e:∀c a d v w,Q (.panic c) (Act.put a d v) w->Q (.panic c) a w)
  (h:walk P ops Q (Zy ops l) a w.drew):(Code.region id ops true).wp P Q a w:=by
 refine wp_region_held (S:=Zbo w.drew) f ?_;rw [<- b];have:=Zal (md:=.any) hs e l (Array.replicate ops.size false) a w.drew g h;rw [<- b] at this;exact this
theorem take {rest:List (Option Oper×Bool)} {a:Act} {v:Value} (c:Region.wanted o (yielded ops a.tmps)=true)
  (b:∀W,Zbo w W->(execOp a.eval o).run P W=.ok (.value v) W) (h:walk P ops Q rest (a.put o.dst v) w):walk P ops Q ((some o,true)::rest) a w :=
 ⟨v,.inl ⟨c,b⟩,h⟩
theorem skip {rest:List (Option Oper×Bool)} {a:Act} (b:Region.wanted o (yielded ops a.tmps)=false)
  (h:walk P ops Q rest (a.put o.dst undef) w):walk P ops Q ((some o,true)::rest) a w :=
 ⟨undef,.inr ⟨b,rfl⟩,h⟩
theorem alone {rest:List (Option Oper×Bool)} {a:Act} (d:Region.wanted o (yielded ops a.tmps)=true)
  (h:∀K:Act->World->Prop,Way (∀b w',Zbo w w'->walk P ops Q rest b w'->K b w')->o.wp P a w K Q):walk P ops Q ((some o,false)::rest) a w:=by
 intro K c;rw [Xe d];exact h K c
theorem Zap {rest:List (Option Oper×Bool)} {a:Act} (c:Region.wanted o (yielded ops a.tmps)=false)
  (h:walk P ops Q rest (a.put o.dst undef) w):walk P ops Q ((some o,false)::rest) a w:=by
 intro K b;rw [Xa (by rw [c];exact Xbm)];exact b _ _ (Zbo.refl w) h
theorem done {a:Act} (h:Q .normal a w):walk P ops Q [] a w:=h
end
end RG
namespace RK
open RowKit MM
variable {a:Act} {w:World} {o:Oper}
section
variable {T : Nat -> Prop} {P : Program} {ops : Array Oper} {Q : Exit -> Act -> World -> Prop} {md : Region.Mode}
theorem Za8 {S S':World->Prop} (e:∀w,S' w->S w):∀(b:Nat) (c:Array Bool) (a:Act) (w:World),wpAnyH P md ops Q S' b c a w->wpAnyH P md ops Q S b c a w
 | 0,_,_,_,h=>h
 | b+1,_,_,_,h=>⟨h.1,fun i hi=>wpOp_mono (fun f w' d=>⟨e _ d.1,Za8 e b _ f w' d.2⟩) (h.2 i hi)⟩
def Way (p:Prop):Prop:=p
theorem Way.out {p:Prop} (h:Way p):p:=h
def walk (T:Nat->Prop) (P:Program) (ops:Array Oper) (Q:Exit->Act->World->Prop):List (Option Oper×Bool)->Act->World->Prop
 | [],a,w=>Q .normal a w
 | (some o,true)::rest,a,w=>∃v,YieldsIf P ops (Kep T w) o v a/\walk T P ops Q rest (a.put o.dst v) w
 | (some o,false)::rest,a,w=>∀K:Act->World->Prop,(∀b w',Kep T w w'->walk T P ops Q rest b w'->K b w')->if Region.wanted o (yielded ops a.tmps)=true then o.wp P a w K Q else K (a.put o.dst undef) w
 | (none,_)::_,_,_=>False
def Zy (ops:Array Oper) (l:List (Nat×Bool)):List (Option Oper×Bool):=l.map fun p=>(ops[p.1]?,p.2)
def Z7 (md:Region.Mode) (ops:Array Oper):List (Nat×Bool)->Array Bool->Bool
 | [],listed=>(Region.ready md ops listed).isEmpty
 | (i,true)::rest,listed=>Region.free md ops listed i&&(Region.ready md ops listed).contains i&&Z7 md ops rest (listed.setIfInBounds i true)
 | (i,false)::rest,listed=>(Region.ready md ops listed == [i])&&Z7 md ops rest (listed.setIfInBounds i true)
theorem Zal (hs:Region.noSelect ops=true) (g:∀c a d v w,Q (.panic c) (Act.put a d v) w->Q (.panic c) a w) :
  ∀(l:List (Nat×Bool)) (e:Array Bool) (a:Act) (w:World),Z7 md ops l e=true->walk T P ops Q (Zy ops l) a w->wpAnyH P md ops Q (Kep T w) l.length e a w
 | [],e,a,w,hp,h=>⟨by simpa [Z7] using hp,h⟩
 | (i,b)::rest,e,a,w,hp,h=>by
   have f:walk T P ops Q ((ops[i]?,b)::Zy ops rest) a w:=h;cases ho:ops[i]? with
   | none=>rw [ho] at f;cases b<;>exact f.elim
   | some o =>
     rw [ho] at f;cases b with
     | true =>
       obtain ⟨v,p,m⟩:=f;simp only [Z7,Xy] at hp;exact wpAnyH_take ho hs hp.1.1 hp.1.2 (fun c a w=>g c a _ _ w) p (Kep.refl _ w) (Zal hs g rest _ _ _ hp.2 m)
     | false =>
       simp only [Z7,Xy] at hp;refine wpAnyH_all (rs:=[i]) (by simpa using hp.1) (by simp) (fun j n => ?_);obtain rfl:j=i:=by simpa using n
       exact wpOp_step ho (fun K s=>f K (fun q w' k t=>s q w' ⟨k,Za8 (fun W r=>k.trans r) _ _ _ _ (Zal hs g rest _ _ _ hp.2 t)⟩))
theorem ZaF (l:List (Nat×Bool)) {id:Nat} (f:P.follows .mixedOrders=true) (hs:Region.noSelect ops=true) (b:l.length=ops.size)
  (g:Z7 .any ops l (Array.replicate ops.size false)=true) (e:∀c a d v w,Q (.panic c) (Act.put a d v) w->Q (.panic c) a w)
  (h:walk T P ops Q (Zy ops l) a w.drew):(Code.region id ops true).wp P Q a w:=by
 refine wp_region_held (S:=Kep T w.drew) f ?_;rw [<- b];have:=Zal (md:=.any) hs e l (Array.replicate ops.size false) a w.drew g h;rw [<- b] at this;exact this
theorem take {rest:List (Option Oper×Bool)} {v:Value} (c:Region.wanted o (yielded ops a.tmps)=true)
  (b:∀W,Kep T w W->(execOp a.eval o).run P W=.ok (.value v) W) (h:walk T P ops Q rest (a.put o.dst v) w):walk T P ops Q ((some o,true)::rest) a w :=
 ⟨v,.inl ⟨c,b⟩,h⟩
theorem alone {rest:List (Option Oper×Bool)} (d:Region.wanted o (yielded ops a.tmps)=true)
  (h:∀K:Act->World->Prop,Way (∀b w',Kep T w w'->walk T P ops Q rest b w'->K b w')->o.wp P a w K Q):walk T P ops Q ((some o,false)::rest) a w:=by
 intro K c;rw [Xe d];exact h K c
theorem done (h:Q .normal a w):walk T P ops Q [] a w:=h
end
