import Derived.Test.YtdfibahafilklaaGreatDoorZC5
import Derived.OrdersHeld
set_option maxRecDepth 100000
set_option maxHeartbeats 8000000
set_option linter.unusedVariables false
set_option linter.unusedSimpArgs false
namespace Go.Proofs.YtdfibahafilklaaGreatDoor.RK
open Go Go.RowKit MM
section
variable {T : Nat → Prop} {P : Program} {ops : Array Oper} {Q : Exit → Act → World → Prop} {md : Region.Mode}
theorem held_weaken {S S':World→Prop} (hS:∀ w,S' w→S w):∀ (fuel:Nat) (listed:Array Bool) (a:Act) (w:World),wpAnyH P md ops Q S' fuel listed a w→wpAnyH P md ops Q S fuel listed a w
 | 0,_,_,_,h=>h
 | fuel+1,_,_,_,h=>⟨h.1,fun i hi=>wpOp_mono (fun a' w' h'=>⟨hS _ h'.1,held_weaken hS fuel _ a' w' h'.2⟩) (h.2 i hi)⟩
def Way (p:Prop):Prop:=p
theorem Way.out {p:Prop} (h:Way p):p:=h
def walk (T:Nat→Prop) (P:Program) (ops:Array Oper) (Q:Exit→Act→World→Prop):List (Option Oper×Bool)→Act→World→Prop
 | [],a,w=>Q .normal a w
 | (some o,true)::rest,a,w=>∃ v,YieldsIf P ops (Kep T w) o v a∧walk T P ops Q rest (a.put o.dst v) w
 | (some o,false)::rest,a,w=>∀ K:Act→World→Prop,(∀ a' w',Kep T w w'→walk T P ops Q rest a' w'→K a' w')→if Region.wanted o (yielded ops a.tmps)=true then o.wp P a w K Q else K (a.put o.dst undef) w
 | (none,_)::_,_,_=>False
def ordered (ops:Array Oper) (l:List (Nat×Bool)):List (Option Oper×Bool):=l.map fun p=>(ops[p.1]?,p.2)
def planned (md:Region.Mode) (ops:Array Oper):List (Nat×Bool)→Array Bool→Bool
 | [],listed=>(Region.ready md ops listed).isEmpty
 | (i,true)::rest,listed=>Region.free md ops listed i&&(Region.ready md ops listed).contains i&&planned md ops rest (listed.setIfInBounds i true)
 | (i,false)::rest,listed=>(Region.ready md ops listed == [i])&&planned md ops rest (listed.setIfInBounds i true)
theorem held_of_walk (hs:Region.noSelect ops=true) (hQ:∀ c a d v w,Q (.panic c) (Act.put a d v) w→Q (.panic c) a w) :
  ∀ (l:List (Nat×Bool)) (listed:Array Bool) (a:Act) (w:World),planned md ops l listed=true→walk T P ops Q (ordered ops l) a w→wpAnyH P md ops Q (Kep T w) l.length listed a w
 | [],listed,a,w,hp,h=>⟨by simpa [planned] using hp,h⟩
 | (i,b)::rest,listed,a,w,hp,h=>by
   have h':walk T P ops Q ((ops[i]?,b)::ordered ops rest) a w:=h
   cases ho:ops[i]? with
   | none=>rw [ho] at h';cases b<;>exact h'.elim
   | some o =>
     rw [ho] at h'
     cases b with
     | true =>
       obtain ⟨v,hy,hr⟩:=h'
       simp only [planned,Bool.and_eq_true] at hp
       exact wpAnyH_take ho hs hp.1.1 hp.1.2 (fun c a w=>hQ c a _ _ w) hy (Kep.refl _ w) (held_of_walk hs hQ rest _ _ _ hp.2 hr)
     | false =>
       simp only [planned,Bool.and_eq_true] at hp
       refine wpAnyH_all (rs:=[i]) (by simpa using hp.1) (by simp) (fun j hj => ?_)
       obtain rfl:j=i:=by simpa using hj
       exact wpOp_step ho (fun K hK=>h' K (fun a' w' h1 h2=>hK a' w' ⟨h1,held_weaken (fun W hW=>h1.trans hW) _ _ _ _ (held_of_walk hs hQ rest _ _ _ hp.2 h2)⟩))
theorem begin_ (l:List (Nat×Bool)) {id:Nat} {a:Act} {w:World} (hm:P.follows .mixedOrders=true) (hs:Region.noSelect ops=true) (hl:l.length=ops.size)
  (hp:planned .any ops l (Array.replicate ops.size false)=true) (hQ:∀ c a d v w,Q (.panic c) (Act.put a d v) w→Q (.panic c) a w)
  (h:walk T P ops Q (ordered ops l) a w.drew):(Code.region id ops true).wp P Q a w:=by
 refine wp_region_held (S:=Kep T w.drew) hm ?_
 rw [← hl]
 have:=held_of_walk (md:=.any) hs hQ l (Array.replicate ops.size false) a w.drew hp h
 rw [← hl] at this
 exact this
theorem take {rest:List (Option Oper×Bool)} {a:Act} {w:World} {o:Oper} {v:Value} (hw:Region.wanted o (yielded ops a.tmps)=true)
  (hy:∀ W,Kep T w W→(execOp a.eval o).run P W=.ok (.value v) W) (h:walk T P ops Q rest (a.put o.dst v) w):walk T P ops Q ((some o,true)::rest) a w :=
 ⟨v,.inl ⟨hw,hy⟩,h⟩
theorem skip {rest:List (Option Oper×Bool)} {a:Act} {w:World} {o:Oper} (hw:Region.wanted o (yielded ops a.tmps)=false)
  (h:walk T P ops Q rest (a.put o.dst undef) w):walk T P ops Q ((some o,true)::rest) a w :=
 ⟨undef,.inr ⟨hw,rfl⟩,h⟩
theorem alone {rest:List (Option Oper×Bool)} {a:Act} {w:World} {o:Oper} (hw:Region.wanted o (yielded ops a.tmps)=true)
  (h:∀ K:Act→World→Prop,Way (∀ a' w',Kep T w w'→walk T P ops Q rest a' w'→K a' w')→o.wp P a w K Q):walk T P ops Q ((some o,false)::rest) a w:=by
 intro K hK
 rw [if_pos hw]
 exact h K hK
theorem alone_skip {rest:List (Option Oper×Bool)} {a:Act} {w:World} {o:Oper} (hw:Region.wanted o (yielded ops a.tmps)=false)
  (h:walk T P ops Q rest (a.put o.dst undef) w):walk T P ops Q ((some o,false)::rest) a w:=by
 intro K hK
 rw [if_neg (by rw [hw];exact Bool.false_ne_true)]
 exact hK _ _ (Kep.refl _ w) h
theorem done {a:Act} {w:World} (h:Q .normal a w):walk T P ops Q [] a w:=h
end
end Go.Proofs.YtdfibahafilklaaGreatDoor.RK
