import Derived.OrdersHeld
import Derived.Test.YtidhgicajlaafaaGreatZC2
set_option maxRecDepth 100000
set_option maxHeartbeats 8000000
set_option linter.unusedVariables false
set_option linter.unusedSimpArgs false
namespace Go.Proofs.YtidhgicajlaafaaGreat.RG
open Go Go.RowKit
section
variable {P : Program} {ops : Array Oper} {Q : Exit → Act → World → Prop} {md : Region.Mode}
def Grew (w w':World):Prop:=Below w.heap.size w w'
theorem Grew.refl (w:World):Grew w w:=Below.refl _ w
theorem Grew.trans {a b c:World} (h:Grew a b) (k:Grew b c):Grew a c:=Below.trans h (Below.mono k h.size)
theorem held_weaken {S S':World→Prop} (hS:∀ w,S' w→S w):∀ (fuel:Nat) (listed:Array Bool) (a:Act) (w:World),wpAnyH P md ops Q S' fuel listed a w→wpAnyH P md ops Q S fuel listed a w
 | 0,_,_,_,h=>h
 | fuel+1,_,_,_,h=>⟨h.1,fun i hi=>wpOp_mono (fun a' w' h'=>⟨hS _ h'.1,held_weaken hS fuel _ a' w' h'.2⟩) (h.2 i hi)⟩
def Way (p:Prop):Prop:=p
theorem Way.out {p:Prop} (h:Way p):p:=h
def walk (P:Program) (ops:Array Oper) (Q:Exit→Act→World→Prop):List (Option Oper×Bool)→Act→World→Prop
 | [],a,w=>Q .normal a w
 | (some o,true)::rest,a,w=>∃ v,YieldsIf P ops (Grew w) o v a∧walk P ops Q rest (a.put o.dst v) w
 | (some o,false)::rest,a,w=>∀ K:Act→World→Prop,(∀ a' w',Grew w w'→walk P ops Q rest a' w'→K a' w')→if Region.wanted o (yielded ops a.tmps)=true then o.wp P a w K Q else K (a.put o.dst undef) w
 | (none,_)::_,_,_=>False
def ordered (ops:Array Oper) (l:List (Nat×Bool)):List (Option Oper×Bool):=l.map fun p=>(ops[p.1]?,p.2)
def planned (md:Region.Mode) (ops:Array Oper):List (Nat×Bool)→Array Bool→Bool
 | [],listed=>(Region.ready md ops listed).isEmpty
 | (i,true)::rest,listed=>Region.free md ops listed i&&(Region.ready md ops listed).contains i&&planned md ops rest (listed.setIfInBounds i true)
 | (i,false)::rest,listed=>(Region.ready md ops listed == [i])&&planned md ops rest (listed.setIfInBounds i true)
theorem held_of_walk (hs:Region.noSelect ops=true) (hQ:∀ c a d v w,Q (.panic c) (Act.put a d v) w→Q (.panic c) a w) :
  ∀ (l:List (Nat×Bool)) (listed:Array Bool) (a:Act) (w:World),planned md ops l listed=true→walk P ops Q (ordered ops l) a w→wpAnyH P md ops Q (Grew w) l.length listed a w
 | [],listed,a,w,hp,h=>⟨by simpa [planned] using hp,h⟩
 | (i,b)::rest,listed,a,w,hp,h=>by
   have h':walk P ops Q ((ops[i]?,b)::ordered ops rest) a w:=h
   cases ho:ops[i]? with
   | none=>rw [ho] at h';cases b<;>exact h'.elim
   | some o =>
     rw [ho] at h'
     cases b with
     | true =>
       obtain ⟨v,hy,hr⟩:=h'
       simp only [planned,Bool.and_eq_true] at hp
       exact wpAnyH_take ho hs hp.1.1 hp.1.2 (fun c a w=>hQ c a _ _ w) hy (Grew.refl w) (held_of_walk hs hQ rest _ _ _ hp.2 hr)
     | false =>
       simp only [planned,Bool.and_eq_true] at hp
       refine wpAnyH_all (rs:=[i]) (by simpa using hp.1) (by simp) (fun j hj => ?_)
       obtain rfl:j=i:=by simpa using hj
       exact wpOp_step ho (fun K hK=>h' K (fun a' w' h1 h2=>hK a' w' ⟨h1,held_weaken (fun W hW=>Grew.trans h1 hW) _ _ _ _ (held_of_walk hs hQ rest _ _ _ hp.2 h2)⟩))
theorem begin_ (l:List (Nat×Bool)) {id:Nat} {a:Act} {w:World} (hm:P.follows .mixedOrders=true) (hs:Region.noSelect ops=true) (hl:l.length=ops.size)
  (hp:planned .any ops l (Array.replicate ops.size false)=true) (hQ:∀ c a d v w,Q (.panic c) (Act.put a d v) w→Q (.panic c) a w)
  (h:walk P ops Q (ordered ops l) a w.drew):(Code.region id ops true).wp P Q a w:=by
 refine wp_region_held (S:=Grew w.drew) hm ?_
 rw [← hl]
 have:=held_of_walk (md:=.any) hs hQ l (Array.replicate ops.size false) a w.drew hp h
 rw [← hl] at this
 exact this
theorem take {rest:List (Option Oper×Bool)} {a:Act} {w:World} {o:Oper} {v:Value} (hw:Region.wanted o (yielded ops a.tmps)=true)
  (hy:∀ W,Grew w W→(execOp a.eval o).run P W=.ok (.value v) W) (h:walk P ops Q rest (a.put o.dst v) w):walk P ops Q ((some o,true)::rest) a w :=
 ⟨v,.inl ⟨hw,hy⟩,h⟩
theorem skip {rest:List (Option Oper×Bool)} {a:Act} {w:World} {o:Oper} (hw:Region.wanted o (yielded ops a.tmps)=false)
  (h:walk P ops Q rest (a.put o.dst undef) w):walk P ops Q ((some o,true)::rest) a w :=
 ⟨undef,.inr ⟨hw,rfl⟩,h⟩
theorem alone {rest:List (Option Oper×Bool)} {a:Act} {w:World} {o:Oper} (hw:Region.wanted o (yielded ops a.tmps)=true)
  (h:∀ K:Act→World→Prop,Way (∀ a' w',Grew w w'→walk P ops Q rest a' w'→K a' w')→o.wp P a w K Q):walk P ops Q ((some o,false)::rest) a w:=by
 intro K hK
 rw [if_pos hw]
 exact h K hK
theorem alone_skip {rest:List (Option Oper×Bool)} {a:Act} {w:World} {o:Oper} (hw:Region.wanted o (yielded ops a.tmps)=false)
  (h:walk P ops Q rest (a.put o.dst undef) w):walk P ops Q ((some o,false)::rest) a w:=by
 intro K hK
 rw [if_neg (by rw [hw];exact Bool.false_ne_true)]
 exact hK _ _ (Grew.refl w) h
theorem done {a:Act} {w:World} (h:Q .normal a w):walk P ops Q [] a w:=h
end
end Go.Proofs.YtidhgicajlaafaaGreat.RG
namespace Go.Proofs.YtidhgicajlaafaaGreat.RT
open Go Go.RowKit MM
inductive Plan (α:Type) where
 | done:Plan α
 | take (i:α) (r:Plan α):Plan α
 | alone (i:α) (r:Plan α):Plan α
 | both (i j:α) (r s:Plan α):Plan α
def Plan.len {α:Type}:Plan α→Nat
 | .done=>0
 | .take _ r=>r.len+1
 | .alone _ r=>r.len+1
 | .both _ _ r _=>r.len+1
section
variable {T : Nat → Prop} {P : Program} {ops : Array Oper} {Q : Exit → Act → World → Prop} {md : Region.Mode}
theorem held_weaken {S S':World→Prop} (hS:∀ w,S' w→S w):∀ (fuel:Nat) (listed:Array Bool) (a:Act) (w:World),wpAnyH P md ops Q S' fuel listed a w→wpAnyH P md ops Q S fuel listed a w
 | 0,_,_,_,h=>h
 | fuel+1,_,_,_,h=>⟨h.1,fun i hi=>wpOp_mono (fun a' w' h'=>⟨hS _ h'.1,held_weaken hS fuel _ a' w' h'.2⟩) (h.2 i hi)⟩
def Way (p:Prop):Prop:=p
theorem Way.out {p:Prop} (h:Way p):p:=h
def Step (T:Nat→Prop) (P:Program) (ops:Array Oper) (Q:Exit→Act→World→Prop) (o:Option Oper) (N:Act→World→Prop) (a:Act) (w:World):Prop :=
 match o with
 | some o=>∀ K:Act→World→Prop,(∀ a' w',Kep T w w'→N a' w'→K a' w')→if Region.wanted o (yielded ops a.tmps)=true then o.wp P a w K Q else K (a.put o.dst undef) w
 | none=>False
def walk (T:Nat→Prop) (P:Program) (ops:Array Oper) (Q:Exit→Act→World→Prop):Plan (Option Oper)→Act→World→Prop
 | .done,a,w=>Q .normal a w
 | .take (some o) r,a,w=>∃ v,YieldsIf P ops (Kep T w) o v a∧walk T P ops Q r (a.put o.dst v) w
 | .take none _,_,_=>False
 | .alone o r,a,w=>Step T P ops Q o (walk T P ops Q r) a w
 | .both o o' r s,a,w=>Step T P ops Q o (walk T P ops Q r) a w∧Step T P ops Q o' (walk T P ops Q s) a w
def ordered (ops:Array Oper):Plan Nat→Plan (Option Oper)
 | .done=>.done
 | .take i r=>.take ops[i]? (ordered ops r)
 | .alone i r=>.alone ops[i]? (ordered ops r)
 | .both i j r s=>.both ops[i]? ops[j]? (ordered ops r) (ordered ops s)
def planned (md:Region.Mode) (ops:Array Oper):Plan Nat→Array Bool→Bool
 | .done,listed=>(Region.ready md ops listed).isEmpty
 | .take i r,listed=>Region.free md ops listed i&&(Region.ready md ops listed).contains i&&planned md ops r (listed.setIfInBounds i true)
 | .alone i r,listed=>(Region.ready md ops listed == [i])&&planned md ops r (listed.setIfInBounds i true)
 | .both i j r s,listed=>(Region.ready md ops listed == [i,j])&&(r.len == s.len)&&planned md ops r (listed.setIfInBounds i true)&&planned md ops s (listed.setIfInBounds j true)
theorem held_of_walk (hs:Region.noSelect ops=true) (hQ:∀ c a d v w,Q (.panic c) (Act.put a d v) w→Q (.panic c) a w) :
  ∀ (l:Plan Nat) (listed:Array Bool) (a:Act) (w:World),planned md ops l listed=true→walk T P ops Q (ordered ops l) a w→wpAnyH P md ops Q (Kep T w) l.len listed a w
 | .done,listed,a,w,hp,h=>⟨by simpa [planned] using hp,h⟩
 | .take i r,listed,a,w,hp,h=>by
   have h':walk T P ops Q (.take ops[i]? (ordered ops r)) a w:=h
   cases ho:ops[i]? with
   | none=>rw [ho] at h';exact h'.elim
   | some o =>
     rw [ho] at h'
     obtain ⟨v,hy,hr⟩:=h'
     simp only [planned,Bool.and_eq_true] at hp
     exact wpAnyH_take ho hs hp.1.1 hp.1.2 (fun c a w=>hQ c a _ _ w) hy (Kep.refl _ w) (held_of_walk hs hQ r _ _ _ hp.2 hr)
 | .alone i r,listed,a,w,hp,h=>by
   have h':Step T P ops Q ops[i]? (walk T P ops Q (ordered ops r)) a w:=h
   cases ho:ops[i]? with
   | none=>rw [ho] at h';exact h'.elim
   | some o =>
     rw [ho] at h'
     simp only [planned,Bool.and_eq_true] at hp
     refine wpAnyH_all (rs:=[i]) (by simpa using hp.1) (by simp) (fun j hj => ?_)
     obtain rfl:j=i:=by simpa using hj
     exact wpOp_step ho (fun K hK=>h' K (fun a' w' h1 h2=>hK a' w' ⟨h1,held_weaken (fun W hW=>h1.trans hW) _ _ _ _ (held_of_walk hs hQ r _ _ _ hp.2 h2)⟩))
 | .both i j r s,listed,a,w,hp,h=>by
   have h':Step T P ops Q ops[i]? (walk T P ops Q (ordered ops r)) a w∧Step T P ops Q ops[j]? (walk T P ops Q (ordered ops s)) a w:=h
   obtain ⟨h1,h2⟩:=h'
   simp only [planned,Bool.and_eq_true,beq_iff_eq] at hp
   cases ho:ops[i]? with
   | none=>rw [ho] at h1;exact h1.elim
   | some o =>
     cases ho':ops[j]? with
     | none=>rw [ho'] at h2;exact h2.elim
     | some o' =>
       rw [ho] at h1
       rw [ho'] at h2
       refine wpAnyH_all (rs:=[i,j]) (by simpa using hp.1.1.1) (by simp) (fun k hk => ?_)
       simp only [List.mem_cons,List.not_mem_nil,or_false] at hk
       rcases hk with rfl | rfl
       ·exact wpOp_step ho (fun K hK=>h1 K (fun a' w' g1 g2=>hK a' w' ⟨g1,held_weaken (fun W hW=>g1.trans hW) _ _ _ _ (held_of_walk hs hQ r _ _ _ hp.1.2 g2)⟩))
       ·refine wpOp_step ho' (fun K hK=>h2 K (fun a' w' g1 g2=>hK a' w' ⟨g1,held_weaken (fun W hW=>g1.trans hW) _ _ _ _ ?_⟩))
        rw [hp.1.1.2]
        exact held_of_walk hs hQ s _ _ _ hp.2 g2
theorem begin_ (l:Plan Nat) {id:Nat} {a:Act} {w:World} (hm:P.follows .mixedOrders=true) (hs:Region.noSelect ops=true) (hl:l.len=ops.size)
  (hp:planned .any ops l (Array.replicate ops.size false)=true) (hQ:∀ c a d v w,Q (.panic c) (Act.put a d v) w→Q (.panic c) a w)
  (h:walk T P ops Q (ordered ops l) a w.drew):(Code.region id ops true).wp P Q a w:=by
 refine wp_region_held (S:=Kep T w.drew) hm ?_
 rw [← hl]
 have:=held_of_walk (md:=.any) hs hQ l (Array.replicate ops.size false) a w.drew hp h
 rw [← hl] at this
 exact this
theorem take {r:Plan (Option Oper)} {a:Act} {w:World} {o:Oper} {v:Value} (hw:Region.wanted o (yielded ops a.tmps)=true)
  (hy:∀ W,Kep T w W→(execOp a.eval o).run P W=.ok (.value v) W) (h:walk T P ops Q r (a.put o.dst v) w):walk T P ops Q (.take (some o) r) a w :=
 ⟨v,.inl ⟨hw,hy⟩,h⟩
theorem skip {r:Plan (Option Oper)} {a:Act} {w:World} {o:Oper} (hw:Region.wanted o (yielded ops a.tmps)=false)
  (h:walk T P ops Q r (a.put o.dst undef) w):walk T P ops Q (.take (some o) r) a w :=
 ⟨undef,.inr ⟨hw,rfl⟩,h⟩
theorem step {N:Act→World→Prop} {a:Act} {w:World} {o:Oper} (hw:Region.wanted o (yielded ops a.tmps)=true)
  (h:∀ K:Act→World→Prop,Way (∀ a' w',Kep T w w'→N a' w'→K a' w')→o.wp P a w K Q):Step T P ops Q (some o) N a w:=by
 intro K hK
 rw [if_pos hw]
 exact h K hK
theorem alone {r:Plan (Option Oper)} {a:Act} {w:World} {o:Oper} (h:Step T P ops Q (some o) (walk T P ops Q r) a w):walk T P ops Q (.alone (some o) r) a w:=h
theorem both {r s:Plan (Option Oper)} {a:Act} {w:World} {o o':Oper} (h:Step T P ops Q (some o) (walk T P ops Q r) a w) (h':Step T P ops Q (some o') (walk T P ops Q s) a w):walk T P ops Q (.both (some o) (some o') r s) a w:=⟨h,h'⟩
theorem done {a:Act} {w:World} (h:Q .normal a w):walk T P ops Q .done a w:=h
end
end Go.Proofs.YtidhgicajlaafaaGreat.RT
