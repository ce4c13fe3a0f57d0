import Derived.Deep.MidRow
import Derived.OwnWalkIn
import Derived.Test.YtdijhifdjbnkfaaGreatZT5
set_option maxRecDepth 100000
set_option maxHeartbeats 0
set_option linter.unusedVariables false
set_option linter.unusedSimpArgs false
namespace Go.Proofs.YtdijhifdjbnkfaaGreat
namespace MM
open RowKit
section
variable {α : Type} (C : Codec α)
variable {C}
end
variable {α : Type} {C : Codec α}
theorem ZjB {F:Fence} {n:Nat} {P:Program} {T e:TypeId} {c:Nat} (E:Elem C P T e c) {S:Nat->Prop} {w:World} {ops:Array Oper} {rest:List Oper} {o:Oper} {a:Act} {Q:Exit->Act->World->Prop} (O:o.guard=none) (s x:Operand)
  (ho:o.op=.call { callee:=.builtin .append,args:=#[s,x],argTypes:=#[T,T] }) (B:Nat) (v:Value) (es:List α) (hs:a.eval s=v) (q:Zz C e B S w v es) (hS:∀b,b<w.heap.size->S b->Apt e B w b)
  (src:Value) (g:List α) (hx:a.eval x=src) (Z:Zdk C S w src g) (M:g≠[]) (m:es.length+g.length<=maxLen) (hby:(es.length+g.length)*c<=140737488355328) (d:B<=w.heap.size)
  (h:∀v' w',Zz C e B S w' v' (es++g)->Below B w w'->w.grownBy w' v.ownBlock->wpListIn F n P ops Q rest (a.put o.dst v') w'):wpListIn F n P ops Q (o::rest) a w:=by
 obtain ⟨p,U,f,rfl,h1,h3,A,V⟩:=Z;obtain ⟨i,z,hi,hz,H,D,N⟩:=E.info;obtain ⟨b,off,rfl,R⟩:=V.resolve_left M;obtain ⟨y,L,X⟩:=q;have I:∀k,v.ownBlock=some k->B<=k:=fun k r=>(World.ownsRow.lt L k r).1;have W:f.flatten.length=g.length*C.size:=by rw [ZeQ A.lens,A.1]
 refine wpListIn_append_own w O s x T ho B e i z C.size c E.under hi hz H D N C.pos v es.length _ hs L ⟨b,off,none⟩ g.length U f.flatten hx W ?_ A.ones m hby d (fun v' w' h4 G _ => ?_)
 ·intro j u Y;rw [ZY];exact R j u Y
 ·have l:Below B w w':=(Below.refl B w).grown G d I;have r:Kep (Apt e B w) w w':=ZM G fun k r hA=>Zc1 L hA r;refine h v' w' ⟨y++f,?_,?_⟩ l G
  ·rw [Xd,XaO];exact h4
  ·have t:=X.append A;refine ⟨t.1,fun i hi J => ?_⟩;exact C.keep (C.keep (t.2 i hi J) (Kep.refl _ _) (T:=fun b=>S b/\b<w.heap.size) fun b l hs=>⟨hs,l⟩) (r.mono' (T:=fun b=>S b/\b<w.heap.size) fun b l hs=>hS b l hs.1) fun b l hs=>hs.1
end MM
namespace SG
open RowKit MM
open EV (ZA Z8 Zad)
open SM (Zo)
