import Derived.Test.YtdfbkhpkffpckaaZB19
import Derived.Test.YtdfbkhpkffpckaaZB10
set_option maxRecDepth 100000
set_option maxHeartbeats 8000000
set_option linter.unusedVariables false
set_option linter.unusedSimpArgs false
namespace Go.Proofs.Ytdfbkhpkffpckaa.PW
open Go.RowKit MM PM
theorem same_more {α:Type} {xs ys:List α} {k:Nat} (hl:xs.length=ys.length) (h:xs.take k=ys.take k) (hk:k<xs.length) (he:xs[k]=ys[k]'(by omega)):xs.take (k+1)=ys.take (k+1):=by
 rw [List.take_succ_eq_append_getElem hk,List.take_succ_eq_append_getElem (by omega),h,he]
theorem same_not {α:Type} {xs ys:List α} {k:Nat} (hl:xs.length=ys.length) (hk:k<xs.length) (he:xs[k]≠ys[k]'(by omega)):xs≠ys:=by
 intro e;subst e;exact he rfl
theorem same_end {α:Type} {xs ys:List α} (hl:xs.length=ys.length) (h:xs.take xs.length=ys.take xs.length):xs=ys:=by
 rw [List.take_length,hl,List.take_length] at h;exact h
theorem sameints_any (u v:Value) (xs ys:List Int) (w:World) (hu:IOn (fun _=>True) w u xs) (hv:IOn (fun _=>True) w v ys) :
  Calls Try.prog 10 #[u,v] w fun e w'=>e=.returned (.bool (decide (xs=ys)))∧Below w.heap.size w w':=by
 obtain ⟨p,cp,rfl,hp1,hp2,_⟩:=hu.shape
 obtain ⟨q,cq,rfl,hq1,hq2,_⟩:=hv.shape
 unfold maxLen at hp2 hq2
 have HP:=Lib.hid hu
 have HQ:=Lib.hid hv
 clear hu hv
 by_cases hl:xs.length=ys.length
 ·have HL:=Lib.hid hl
  have t0:((xs.length:Int) == (ys.length:Int))=true:=by rw [beq_iff_eq];omega
  obtain ⟨RES,hRES⟩:∃ R,decide (xs=ys)=R:=⟨_,rfl⟩
  have HE:=Lib.hid hRES
  rw [hRES]
  have H0:Hid (xs.take 0=ys.take 0):=Lib.hid rfl
  clear hl hRES
  go_enter Try.func10,Try.ntmps10
  go_wp2_with fail
  go_loopw [5] (fun i wr=>∃ k:Nat,k≤xs.length∧i=.int .i64 k∧Hid (xs.take k=ys.take k)∧Hid (Below w.heap.size w wr)) (fun i _=>xs.length - (intOf i).toNat)
  case atStart=>exact ⟨0,Nat.zero_le _,rfl,H0,Lib.hid (Below.refl _ _)⟩
  case round =>
   obtain ⟨k,hk,rfl,HA,HB⟩:=hrel
   clear H0
   by_cases hlt:k<xs.length
   ·have t1:decide ((k:Int)<(xs.length:Int))=true:=by simp;omega
    have hlt2:k<ys.length:=by rw [← HL.out];exact hlt
    obtain ⟨b,off,rfl,hbl,_,hcell⟩:=(HP.out.keep (kep_below (fun _=>True) HB.out) fun _ _ h=>h).at_ hlt
    obtain ⟨b2,off2,rfl,hbl2,_,hcell2⟩:=(HQ.out.keep (kep_below (fun _=>True) HB.out) fun _ _ h=>h).at_ hlt2
    have hmore:=same_more HL.out HA.out hlt
    have hnot:=same_not HL.out hlt
    obtain ⟨x,hx⟩:∃ r,xs[k]=r:=⟨_,rfl⟩
    obtain ⟨y,hy⟩:∃ r,ys[k]=r:=⟨_,rfl⟩
    rw [hx] at hcell hmore hnot
    rw [hy] at hcell2 hmore hnot
    have HM:=Lib.hid hmore
    have HN:=Lib.hid hnot
    clear hx hy hmore hnot
    by_cases hxy:x=y
    ·subst hxy
     have HA2:=Lib.hid (HM.out rfl)
     clear HM HN HA
     go_wp2_with fail
     go_quiet (fail)
     go_wp2_with fail
     go_roundw
     case rel=>exact ⟨k+1,by omega,by go_num,HA2,Lib.hid (MM.below_drewN HB.out _)⟩
     case measure=>simp [intOf];omega
    ·have t2:(x == y)=false:=by rw [beq_eq_false_iff_ne];exact hxy
     have hf:RES=false:=by rw [← HE.out];exact decide_eq_false (HN.out hxy)
     subst hf
     clear HM HN HA hxy
     go_wp2_with fail
     go_quiet (fail)
     go_wp2_with fail
     go_ret
     exact ⟨rfl,MM.below_drewN HB.out _⟩
   ·obtain rfl:k=xs.length:=by omega
    have t1:decide ((xs.length:Int)<(xs.length:Int))=false:=by simp
    have hf:RES=true:=by rw [← HE.out];exact decide_eq_true (same_end HL.out HA.out)
    subst hf
    clear HA
    go_wp2_with fail
    go_ret
    exact ⟨rfl,HB.out⟩
 ·have t0:((xs.length:Int) == (ys.length:Int))=false:=by rw [beq_eq_false_iff_ne];omega
  have hf:decide (xs=ys)=false:=decide_eq_false (fun e=>hl (by rw [e]))
  rw [hf]
  clear hl hf
  go_enter Try.func10,Try.ntmps10
  go_wp2_with fail
  go_ret
  exact ⟨rfl,Below.refl _ _⟩
end Go.Proofs.Ytdfbkhpkffpckaa.PW
namespace Go.Proofs.Ytdfbkhpkffpckaa.RK
open Go Go.RowKit MM
section
variable {T : Nat → Prop} {P : Program} {ops : Array Oper} {Q : Exit → Act → World → Prop} {md : Region.Mode}
theorem held_weaken {S S':World→Prop} (hS:∀ w,S' w→S w):∀ (fuel:Nat) (listed:Array Bool) (a:Act) (w:World),wpAnyH P md ops Q S' fuel listed a w→wpAnyH P md ops Q S fuel listed a w
 | 0,_,_,_,h=>h
 | fuel+1,_,_,_,h=>⟨h.1,fun i hi=>wpOp_mono (fun a' w' h'=>⟨hS _ h'.1,held_weaken hS fuel _ a' w' h'.2⟩) (h.2 i hi)⟩
def Way (p:Prop):Prop:=p
theorem Way.out {p:Prop} (h:Way p):p:=h
def walk (T:Nat→Prop) (P:Program) (ops:Array Oper) (Q:Exit→Act→World→Prop):List (Option Oper×Bool)→Act→World→Prop
 | [],a,w=>Q .normal a w
 | (some o,true)::rest,a,w=>∃ v,YieldsIf P ops (Kep T w) o v a∧walk T P ops Q rest (a.put o.dst v) w
 | (some o,false)::rest,a,w=>∀ K:Act→World→Prop,(∀ a' w',Kep T w w'→walk T P ops Q rest a' w'→K a' w')→if Region.wanted o (yielded ops a.tmps)=true then o.wp P a w K Q else K (a.put o.dst undef) w
 | (none,_)::_,_,_=>False
def ordered (ops:Array Oper) (l:List (Nat×Bool)):List (Option Oper×Bool):=l.map fun p=>(ops[p.1]?,p.2)
def planned (md:Region.Mode) (ops:Array Oper):List (Nat×Bool)→Array Bool→Bool
 | [],listed=>(Region.ready md ops listed).isEmpty
 | (i,true)::rest,listed=>Region.free md ops listed i&&(Region.ready md ops listed).contains i&&planned md ops rest (listed.setIfInBounds i true)
 | (i,false)::rest,listed=>(Region.ready md ops listed == [i])&&planned md ops rest (listed.setIfInBounds i true)
theorem held_of_walk (hs:Region.noSelect ops=true) (hQ:∀ c a d v w,Q (.panic c) (Act.put a d v) w→Q (.panic c) a w) :
  ∀ (l:List (Nat×Bool)) (listed:Array Bool) (a:Act) (w:World),planned md ops l listed=true→walk T P ops Q (ordered ops l) a w→wpAnyH P md ops Q (Kep T w) l.length listed a w
 | [],listed,a,w,hp,h=>⟨by simpa [planned] using hp,h⟩
 | (i,b)::rest,listed,a,w,hp,h=>by
   have h':walk T P ops Q ((ops[i]?,b)::ordered ops rest) a w:=h
   cases ho:ops[i]? with
   | none=>rw [ho] at h';cases b<;>exact h'.elim
   | some o =>
     rw [ho] at h'
     cases b with
     | true =>
       obtain ⟨v,hy,hr⟩:=h'
       simp only [planned,Bool.and_eq_true] at hp
       exact wpAnyH_take ho hs hp.1.1 hp.1.2 (fun c a w=>hQ c a _ _ w) hy (Kep.refl _ w) (held_of_walk hs hQ rest _ _ _ hp.2 hr)
     | false =>
       simp only [planned,Bool.and_eq_true] at hp
       refine wpAnyH_all (rs:=[i]) (by simpa using hp.1) (by simp) (fun j hj => ?_)
       obtain rfl:j=i:=by simpa using hj
       exact wpOp_step ho (fun K hK=>h' K (fun a' w' h1 h2=>hK a' w' ⟨h1,held_weaken (fun W hW=>h1.trans hW) _ _ _ _ (held_of_walk hs hQ rest _ _ _ hp.2 h2)⟩))
theorem begin_ (l:List (Nat×Bool)) {id:Nat} {a:Act} {w:World} (hm:P.follows .mixedOrders=true) (hs:Region.noSelect ops=true) (hl:l.length=ops.size)
  (hp:planned .any ops l (Array.replicate ops.size false)=true) (hQ:∀ c a d v w,Q (.panic c) (Act.put a d v) w→Q (.panic c) a w)
  (h:walk T P ops Q (ordered ops l) a w.drew):(Code.region id ops true).wp P Q a w:=by
 refine wp_region_held (S:=Kep T w.drew) hm ?_
 rw [← hl]
 have:=held_of_walk (md:=.any) hs hQ l (Array.replicate ops.size false) a w.drew hp h
 rw [← hl] at this
 exact this
theorem take {rest:List (Option Oper×Bool)} {a:Act} {w:World} {o:Oper} {v:Value} (hw:Region.wanted o (yielded ops a.tmps)=true)
  (hy:∀ W,Kep T w W→(execOp a.eval o).run P W=.ok (.value v) W) (h:walk T P ops Q rest (a.put o.dst v) w):walk T P ops Q ((some o,true)::rest) a w :=
 ⟨v,.inl ⟨hw,hy⟩,h⟩
theorem alone {rest:List (Option Oper×Bool)} {a:Act} {w:World} {o:Oper} (hw:Region.wanted o (yielded ops a.tmps)=true)
  (h:∀ K:Act→World→Prop,Way (∀ a' w',Kep T w w'→walk T P ops Q rest a' w'→K a' w')→o.wp P a w K Q):walk T P ops Q ((some o,false)::rest) a w:=by
 intro K hK
 rw [if_pos hw]
 exact h K hK
theorem done {a:Act} {w:World} (h:Q .normal a w):walk T P ops Q [] a w:=h
end
end Go.Proofs.Ytdfbkhpkffpckaa.RK
