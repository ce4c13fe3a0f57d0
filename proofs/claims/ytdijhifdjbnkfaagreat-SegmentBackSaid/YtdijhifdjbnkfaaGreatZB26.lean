import Derived.Test.YtdijhifdjbnkfaaGreatZB2
import Derived.OrdersHeld
import Derived.RegionTactic
import Derived.Below
import Derived.Test.YtdijhifdjbnkfaaGreatZB25
import Derived.Test.YtdijhifdjbnkfaaGreatZB10
import Derived.Test.YtdijhifdjbnkfaaGreatZB6
import Derived.Deep.MidRow
set_option linter.unusedVariables false
set_option linter.unusedSimpArgs false
namespace Go.Proofs.YtdijhifdjbnkfaaGreat.RT
open Go Go.RowKit Go.Proofs.YtdijhifdjbnkfaaGreat.MM
inductive Plan (α:Type) where
 | done:Plan α
 | take (i:α) (r:Plan α):Plan α
 | alone (i:α) (r:Plan α):Plan α
 | both (i j:α) (r s:Plan α):Plan α
def Plan.len {α:Type}:Plan α→Nat
 | .done=>0
 | .take _ r=>r.len+1
 | .alone _ r=>r.len+1
 | .both _ _ r _=>r.len+1
section
variable {T : Nat → Prop} {P : Program} {ops : Array Oper} {Q : Exit → Act → World → Prop} {md : Region.Mode}
theorem held_weaken {S S':World→Prop} (hS:∀ w,S' w→S w):∀ (fuel:Nat) (listed:Array Bool) (a:Act) (w:World),wpAnyH P md ops Q S' fuel listed a w→wpAnyH P md ops Q S fuel listed a w
 | 0,_,_,_,h=>h
 | fuel+1,_,_,_,h=>⟨h.1,fun i hi=>wpOp_mono (fun a' w' h'=>⟨hS _ h'.1,held_weaken hS fuel _ a' w' h'.2⟩) (h.2 i hi)⟩
def Way (p:Prop):Prop:=p
theorem Way.out {p:Prop} (h:Way p):p:=h
def Step (T:Nat→Prop) (P:Program) (ops:Array Oper) (Q:Exit→Act→World→Prop) (o:Option Oper) (N:Act→World→Prop) (a:Act) (w:World):Prop :=
 match o with
 | some o=>∀ K:Act→World→Prop,(∀ a' w',Kep T w w'→N a' w'→K a' w')→if Region.wanted o (yielded ops a.tmps)=true then o.wp P a w K Q else K (a.put o.dst undef) w
 | none=>False
def walk (T:Nat→Prop) (P:Program) (ops:Array Oper) (Q:Exit→Act→World→Prop):Plan (Option Oper)→Act→World→Prop
 | .done,a,w=>Q .normal a w
 | .take (some o) r,a,w=>∃ v,YieldsIf P ops (Kep T w) o v a∧walk T P ops Q r (a.put o.dst v) w
 | .take none _,_,_=>False
 | .alone o r,a,w=>Step T P ops Q o (walk T P ops Q r) a w
 | .both o o' r s,a,w=>Step T P ops Q o (walk T P ops Q r) a w∧Step T P ops Q o' (walk T P ops Q s) a w
def ordered (ops:Array Oper):Plan Nat→Plan (Option Oper)
 | .done=>.done
 | .take i r=>.take ops[i]? (ordered ops r)
 | .alone i r=>.alone ops[i]? (ordered ops r)
 | .both i j r s=>.both ops[i]? ops[j]? (ordered ops r) (ordered ops s)
def planned (md:Region.Mode) (ops:Array Oper):Plan Nat→Array Bool→Bool
 | .done,listed=>(Region.ready md ops listed).isEmpty
 | .take i r,listed=>Region.free md ops listed i&&(Region.ready md ops listed).contains i&&planned md ops r (listed.setIfInBounds i true)
 | .alone i r,listed=>(Region.ready md ops listed == [i])&&planned md ops r (listed.setIfInBounds i true)
 | .both i j r s,listed=>(Region.ready md ops listed == [i,j])&&(r.len == s.len)&&planned md ops r (listed.setIfInBounds i true)&&planned md ops s (listed.setIfInBounds j true)
theorem held_of_walk (hs:Region.noSelect ops=true) (hQ:∀ c a d v w,Q (.panic c) (Act.put a d v) w→Q (.panic c) a w) :
  ∀ (l:Plan Nat) (listed:Array Bool) (a:Act) (w:World),planned md ops l listed=true→walk T P ops Q (ordered ops l) a w→wpAnyH P md ops Q (Kep T w) l.len listed a w
 | .done,listed,a,w,hp,h=>⟨by simpa [planned] using hp,h⟩
 | .take i r,listed,a,w,hp,h=>by
   have h':walk T P ops Q (.take ops[i]? (ordered ops r)) a w:=h
   cases ho:ops[i]? with
   | none=>rw [ho] at h';exact h'.elim
   | some o =>
     rw [ho] at h'
     obtain ⟨v,hy,hr⟩:=h'
     simp only [planned,Bool.and_eq_true] at hp
     exact wpAnyH_take ho hs hp.1.1 hp.1.2 (fun c a w=>hQ c a _ _ w) hy (Kep.refl _ w) (held_of_walk hs hQ r _ _ _ hp.2 hr)
 | .alone i r,listed,a,w,hp,h=>by
   have h':Step T P ops Q ops[i]? (walk T P ops Q (ordered ops r)) a w:=h
   cases ho:ops[i]? with
   | none=>rw [ho] at h';exact h'.elim
   | some o =>
     rw [ho] at h'
     simp only [planned,Bool.and_eq_true] at hp
     refine wpAnyH_all (rs:=[i]) (by simpa using hp.1) (by simp) (fun j hj => ?_)
     obtain rfl:j=i:=by simpa using hj
     exact wpOp_step ho (fun K hK=>h' K (fun a' w' h1 h2=>hK a' w' ⟨h1,held_weaken (fun W hW=>h1.trans hW) _ _ _ _ (held_of_walk hs hQ r _ _ _ hp.2 h2)⟩))
 | .both i j r s,listed,a,w,hp,h=>by
   have h':Step T P ops Q ops[i]? (walk T P ops Q (ordered ops r)) a w∧Step T P ops Q ops[j]? (walk T P ops Q (ordered ops s)) a w:=h
   obtain ⟨h1,h2⟩:=h'
   simp only [planned,Bool.and_eq_true,beq_iff_eq] at hp
   cases ho:ops[i]? with
   | none=>rw [ho] at h1;exact h1.elim
   | some o =>
     cases ho':ops[j]? with
     | none=>rw [ho'] at h2;exact h2.elim
     | some o' =>
       rw [ho] at h1
       rw [ho'] at h2
       refine wpAnyH_all (rs:=[i,j]) (by simpa using hp.1.1.1) (by simp) (fun k hk => ?_)
       simp only [List.mem_cons,List.not_mem_nil,or_false] at hk
       rcases hk with rfl | rfl
       ·exact wpOp_step ho (fun K hK=>h1 K (fun a' w' g1 g2=>hK a' w' ⟨g1,held_weaken (fun W hW=>g1.trans hW) _ _ _ _ (held_of_walk hs hQ r _ _ _ hp.1.2 g2)⟩))
       ·refine wpOp_step ho' (fun K hK=>h2 K (fun a' w' g1 g2=>hK a' w' ⟨g1,held_weaken (fun W hW=>g1.trans hW) _ _ _ _ ?_⟩))
        rw [hp.1.1.2]
        exact held_of_walk hs hQ s _ _ _ hp.2 g2
theorem begin_ (l:Plan Nat) {id:Nat} {a:Act} {w:World} (hm:P.follows .mixedOrders=true) (hs:Region.noSelect ops=true) (hl:l.len=ops.size)
  (hp:planned .any ops l (Array.replicate ops.size false)=true) (hQ:∀ c a d v w,Q (.panic c) (Act.put a d v) w→Q (.panic c) a w)
  (h:walk T P ops Q (ordered ops l) a w.drew):(Code.region id ops true).wp P Q a w:=by
 refine wp_region_held (S:=Kep T w.drew) hm ?_
 rw [← hl]
 have:=held_of_walk (md:=.any) hs hQ l (Array.replicate ops.size false) a w.drew hp h
 rw [← hl] at this
 exact this
theorem take {r:Plan (Option Oper)} {a:Act} {w:World} {o:Oper} {v:Value} (hw:Region.wanted o (yielded ops a.tmps)=true)
  (hy:∀ W,Kep T w W→(execOp a.eval o).run P W=.ok (.value v) W) (h:walk T P ops Q r (a.put o.dst v) w):walk T P ops Q (.take (some o) r) a w :=
 ⟨v,.inl ⟨hw,hy⟩,h⟩
theorem skip {r:Plan (Option Oper)} {a:Act} {w:World} {o:Oper} (hw:Region.wanted o (yielded ops a.tmps)=false)
  (h:walk T P ops Q r (a.put o.dst undef) w):walk T P ops Q (.take (some o) r) a w :=
 ⟨undef,.inr ⟨hw,rfl⟩,h⟩
theorem step {N:Act→World→Prop} {a:Act} {w:World} {o:Oper} (hw:Region.wanted o (yielded ops a.tmps)=true)
  (h:∀ K:Act→World→Prop,Way (∀ a' w',Kep T w w'→N a' w'→K a' w')→o.wp P a w K Q):Step T P ops Q (some o) N a w:=by
 intro K hK
 rw [if_pos hw]
 exact h K hK
theorem alone {r:Plan (Option Oper)} {a:Act} {w:World} {o:Oper} (h:Step T P ops Q (some o) (walk T P ops Q r) a w):walk T P ops Q (.alone (some o) r) a w:=h
theorem both {r s:Plan (Option Oper)} {a:Act} {w:World} {o o':Oper} (h:Step T P ops Q (some o) (walk T P ops Q r) a w) (h':Step T P ops Q (some o') (walk T P ops Q s) a w):walk T P ops Q (.both (some o) (some o') r s) a w:=⟨h,h'⟩
theorem done {a:Act} {w:World} (h:Q .normal a w):walk T P ops Q .done a w:=h
end
end Go.Proofs.YtdijhifdjbnkfaaGreat.RT
namespace Go.Proofs.YtdijhifdjbnkfaaGreat.SG
open Go Go.RowKit Go.Proofs.YtdijhifdjbnkfaaGreat.MM Go.Proofs.YtdijhifdjbnkfaaGreat.PW
theorem ron_ion {S:Nat→Prop} {w:World} {v:Value} {zs:List Int} (h:ROn cInt S w v zs):IOn S w v zs:=by
 obtain ⟨p,cap,raw,hv,h1,h2,h3,hm,hc⟩:=h
 refine ⟨p,cap,hv,h1,h2,h3,?_⟩
 rcases hc with hc | ⟨b,off,hp,hlt,hS,hc⟩
 ·exact .inl hc
 ·refine .inr ⟨b,off,hp,hlt,hS,fun i hi => ?_⟩
  have hi':i<raw.length:=by rw [hm.1];exact hi
  have e:raw[i]=[.int .i64 zs[i]]:=hm.2 i hi' hi
  have hf:=flat_get hm.lens i hi' 0 (.int .i64 zs[i]) (by rw [e];rfl)
  have hz:cInt.size=1:=rfl
  rw [hz,Nat.mul_one,Nat.add_zero] at hf
  exact hc i _ hf
def cellsP:List Value→Int×Value
 | [.int _ z,u]=>(z,u)
 | _=>(0,.bool false)
theorem ron_pon {S:Nat→Prop} {w:World} {v:Value} {ps:List (Int×List Int)} (h:ROn postC S w v ps):POn S w v ps:=by
 obtain ⟨p,cap,raw,hv,h1,h2,h3,hm,hc⟩:=h
 have hon:∀ i (hi:i<raw.length) (hi':i<ps.length),∃ u,raw[i]=[.int .i64 ps[i].1,u]∧ROn cInt S w u ps[i].2:=fun i hi hi'=>by
  obtain ⟨x,y,hxy,hx,u,hy,hr⟩:=hm.2 i hi hi'
  have hx:x=[.int .i64 ps[i].1]:=hx
  exact ⟨u,by rw [hxy,hx,hy];rfl,hr⟩
 refine ⟨p,cap,raw.map cellsP,hv,h1,h2,h3,⟨by rw [List.length_map];exact hm.1,fun i hi hi' => ?_⟩,?_⟩
 ·rw [List.length_map] at hi
  obtain ⟨u,e,hr⟩:=hon i hi hi'
  rw [List.getElem_map,e]
  exact ⟨rfl,ron_ion hr⟩
 ·rcases hc with hc | ⟨b,off,hp,hlt,hS,hc⟩
  ·exact .inl hc
  ·refine .inr ⟨b,off,hp,hlt,hS,fun i hi => ?_⟩
   rw [List.length_map] at hi
   have hi':i<ps.length:=by rw [← hm.1];exact hi
   obtain ⟨u,e,hr⟩:=hon i hi hi'
   have hz:postC.size=2:=rfl
   have f0:=flat_get hm.lens i hi 0 (.int .i64 ps[i].1) (by rw [e];rfl)
   have f1:=flat_get hm.lens i hi 1 u (by rw [e];rfl)
   rw [hz,Nat.add_zero] at f0
   rw [hz] at f1
   rw [List.getElem_map,e]
   exact ⟨hc _ _ f0,by have:=hc _ _ f1;rw [← Nat.add_assoc] at this;exact this⟩
end Go.Proofs.YtdijhifdjbnkfaaGreat.SG
namespace Go.Proofs.YtdijhifdjbnkfaaGreat.MM
open Go Go.RowKit
section
variable {α : Type} (C : Codec α)
def HalfX (e:TypeId) (S:Nat→Prop) (w:World) (g n:Nat) (es:List α):Prop :=
 g<w.heap.size∧w.there g 0 (n*C.size)∧∃ raw,Mean C S w raw es∧w.rangeAt g 0 raw.flatten
variable {C}
theorem HalfX.keep {e:TypeId} {S T:Nat→Prop} {w w':World} {g n:Nat} {es:List α} (h:HalfX C e S w g n es) (hk:Kep T w w') (hg:T g) (hS:∀ b,b<w.heap.size→S b→T b):HalfX C e S w' g n es:=by
 obtain ⟨h1,h2,raw,hm,hr⟩:=h
 refine ⟨Nat.lt_of_lt_of_le h1 hk.size,fun j hj => ?_,raw,⟨hm.1,fun i hi hi' => ?_⟩,fun j v hj => ?_⟩
 ·have hb:=hk.block g h1 hg
  rw [World.cell?_of_block (a:=⟨g,0+j,none⟩) hb,World.frozen?_of_block (a:=⟨g,0+j,none⟩) hb]
  exact h2 j hj
 ·exact C.keep (C.keep (hm.2 i hi hi') (Kep.refl _ _) (T:=fun b=>S b∧b<w.heap.size) fun b hb hs=>⟨hs,hb⟩) (hk.mono' (T:=fun b=>S b∧b<w.heap.size) fun b hb hs=>hS b hb hs.1) fun b hb hs=>hs.1
 ·rw [hk.cell h1 hg];exact hr j v hj
end
end Go.Proofs.YtdijhifdjbnkfaaGreat.MM
