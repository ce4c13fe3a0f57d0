import Derived.Test.YtdfibahafilklaaGreatDoorZC28
import Derived.Deep.MidRow
import Derived.StillTail
set_option maxRecDepth 100000
set_option maxHeartbeats 8000000
set_option linter.unusedVariables false
set_option linter.unusedSimpArgs false
namespace Go.Proofs.YtdfibahafilklaaGreatDoor.MM
open Go Go.RowKit
section
variable {α : Type} (C : Codec α)
def HalfX (e:TypeId) (S:Nat→Prop) (w:World) (g n:Nat) (es:List α):Prop :=
 g<w.heap.size∧w.there g 0 (n*C.size)∧∃ raw,Mean C S w raw es∧w.rangeAt g 0 raw.flatten
variable {C}
theorem HalfX.start {e:TypeId} {S:Nat→Prop} {B:Nat} {w:World} {g n:Nat} {xs:List Value} (h:w.ownsRow B e C.size (.slice (some ⟨g,0,none⟩) n n) n xs):HalfX C e S w g n []:=by
 rcases h.2 with ⟨hv,_⟩ | ⟨g',cap,cur,hv,hb,hh,hn,hm,hs,ht⟩
 ·cases hv
 ·simp only [Value.slice.injEq,Option.some.injEq,Addr.mk.injEq] at hv
  obtain ⟨⟨rfl,_⟩,_,rfl⟩:=hv
  refine ⟨(Array.getElem?_eq_some_iff.1 hh).1,fun j hj=>⟨?_,frozen_of_row w g _ cur _ hh⟩,[],Mean.nil_ _ _,fun j v hj=>by simp at hj⟩
  obtain ⟨u,hu⟩:∃ u,(cur.toList.take (n*C.size))[j]? = some u:=⟨_,List.getElem?_eq_getElem (by rw [List.length_take,Array.length_toList];omega)⟩
  have:=Lib.cells_of_row hh (n*C.size) j u hu
  rw [add_at] at this
  rw [this];rfl
theorem HalfX.keep {e:TypeId} {S T:Nat→Prop} {w w':World} {g n:Nat} {es:List α} (h:HalfX C e S w g n es) (hk:Kep T w w') (hg:T g) (hS:∀ b,b<w.heap.size→S b→T b):HalfX C e S w' g n es:=by
 obtain ⟨h1,h2,raw,hm,hr⟩:=h
 refine ⟨Nat.lt_of_lt_of_le h1 hk.size,fun j hj => ?_,raw,⟨hm.1,fun i hi hi' => ?_⟩,fun j v hj => ?_⟩
 ·have hb:=hk.block g h1 hg
  rw [World.cell?_of_block (a:=⟨g,0+j,none⟩) hb,World.frozen?_of_block (a:=⟨g,0+j,none⟩) hb]
  exact h2 j hj
 ·exact C.keep (C.keep (hm.2 i hi hi') (Kep.refl _ _) (T:=fun b=>S b∧b<w.heap.size) fun b hb hs=>⟨hs,hb⟩) (hk.mono' (T:=fun b=>S b∧b<w.heap.size) fun b hb hs=>hS b hb hs.1) fun b hb hs=>hs.1
 ·rw [hk.cell h1 hg];exact hr j v hj
theorem kep_sets {g:Nat} (vs:List Value):∀ (w:World) (o:Nat),Kep (fun b=>b≠g) w (w.setCells g o vs):=by
 induction vs with
 | nil=>exact fun w _=>Kep.refl _ w
 | cons v vs ih=>exact fun w o=>(kep_set (fun h=>h rfl) v).trans (ih _ _)
theorem HalfX.there {e:TypeId} {S:Nat→Prop} {w:World} {g n:Nat} {es:List α} (h:HalfX C e S w g n es) {k:Nat} (hk:k<n):w.there g (k*C.size) C.size:=fun j hj=>by
 have hm:=Nat.mul_le_mul_right C.size (show k+1≤n from hk)
 rw [Nat.succ_mul] at hm
 have:=h.2.1 (k*C.size+j) (by omega)
 rw [Nat.zero_add] at this
 exact this
theorem HalfX.next {e:TypeId} {S:Nat→Prop} {w:World} {g n:Nat} {es:List α} (h:HalfX C e S w g n es) (hk:es.length<n) {vs:List Value} {d:α} (hd:C.on S w vs d) (hS:¬ S g) :
  HalfX C e S (w.setCells g (es.length*C.size) vs) g n (es++[d]):=by
 have hth:=h.there hk
 obtain ⟨h1,h2,raw,hm,hr⟩:=h
 have hl:=C.len hd
 have hks:Kep (fun b=>b≠g) w (w.setCells g (es.length*C.size) vs):=kep_sets vs w _
 have hkS:Kep S w (w.setCells g (es.length*C.size) vs):=hks.mono fun b hb e=>hS (e▸hb)
 refine ⟨Nat.lt_of_lt_of_le h1 hks.size,World.there_setCells h2 _ _ _,raw++[vs],(hm.append (Mean.single hd)).keep hkS fun _ _ h=>h,?_⟩
 have hfl:=flat_len hm.lens
 have e1:=World.rangeAt_setCells_apart hr g (es.length*C.size) vs (.inr (.inl (by rw [hfl,hm.1];omega)))
 have e2:=World.rangeAt_setCells_same w g (es.length*C.size) vs (by rw [hl];exact hth)
 intro j v hj
 rw [List.flatten_append,List.flatten_singleton] at hj
 by_cases hlt:j<raw.flatten.length
 ·rw [List.getElem?_append_left hlt] at hj
  exact e1 j v hj
 ·rw [List.getElem?_append_right (by omega)] at hj
  have:=e2 _ v hj
  rw [hfl,hm.1] at this
  rw [hfl,hm.1] at hlt
  rw [show es.length*C.size+(j - es.length*C.size)=0+j by omega] at this
  exact this
theorem HalfX.ron {e:TypeId} {S T:Nat→Prop} {w:World} {g n:Nat} {es:List α} (h:HalfX C e S w g n es) (hn:es.length=n) (hm:n≤maxLen) (hg:T g) (hS:∀ b,b<w.heap.size→S b→T b):ROn C T w (.slice (some ⟨g,0,none⟩) n n) es:=by
 obtain ⟨h1,h2,raw,hmn,hr⟩:=h
 subst hn
 exact ⟨some ⟨g,0,none⟩,es.length,raw,rfl,Nat.le_refl _,hm,(fun h=>by cases h),hmn.keep (Kep.refl _ _) hS,.inr ⟨g,0,rfl,h1,hg,hr⟩⟩
end
end Go.Proofs.YtdfibahafilklaaGreatDoor.MM
namespace Go.Proofs.YtdfibahafilklaaGreatDoor.RS
open Go Go.RowKit MM
section
variable {P : Program} {ops : Array Oper} {Q : Exit → Act → World → Prop} {md : Region.Mode}
def HL (P:Program) (md:Region.Mode) (ops:Array Oper) (Q:Exit→Act→World→Prop) (S:World→Prop) (n:Nat) (L:Array Bool→Act→World→Prop):Nat→Array Bool→Act→World→Prop
 | 0,listed,a,w=>L listed a w
 | f+1,listed,a,w=>Region.ready md ops listed≠[]∧∀ i∈Region.ready md ops listed,i<n∧wpOp P ops Q i (fun a' w'=>S w'∧HL P md ops Q S n L f (listed.setIfInBounds i true) a' w') a w
theorem any_of_head {S:World→Prop} {n g:Nat} {L:Array Bool→Act→World→Prop} (hL:∀ listed a w,L listed a w→wpAny P md ops Q g listed a w) :
  ∀ (f:Nat) (listed:Array Bool) (a:Act) (w:World),HL P md ops Q S n L f listed a w→wpAny P md ops Q (f+g) listed a w
 | 0,listed,a,w,h=>by rw [Nat.zero_add];exact hL _ _ _ h
 | f+1,listed,a,w,h=>by
   rw [show f+1+g=(f+g)+1 by omega]
   exact ⟨fun h0=>absurd h0 h.1,fun i hi=>wpOp_mono (fun a' w' h'=>any_of_head hL f _ a' w' h'.2) (h.2 i hi).2⟩
theorem first {S:World→Prop} {n i:Nat} {oi:Oper} {v:Value} {L:Array Bool→Act→World→Prop} (hi:ops[i]? = some oi) (hsel:∀ (j:Nat) (o:Oper) cs b,ops[j]? = some o→o.op≠.select cs b)
  (hs:Region.sinkB md ops n=true) (hc:Region.chainB md ops n=true) (hn:n<ops.size) (hin:i<n) (hQ:∀ c a w,Q (.panic c) (a.put oi.dst v) w→Q (.panic c) a w)
  (hdone:∀ listed a w,L listed a w→∀ j∈Region.ready md ops listed,n≤j) :
  ∀ (f:Nat) (listed:Array Bool) (a:Act) (w:World),HeadInv md ops n listed →
    (∀ j oj,ops[j]? = some oj→j≠i→listed.getD j true=false→(∀ e∈oj.after,Region.binds md e=true→e.on≠i)→oi.apart ops oj=true) →
    i∈Region.ready md ops listed→YieldsIf P ops S oi v a→S w →
    HL P md ops Q S n L f (listed.setIfInBounds i true) (a.put oi.dst v) w→HL P md ops Q S n L (f+1) listed a w:=by
 intro f
 induction f with
 | zero =>
   intro listed a w inv _ hr hy hS H
   have hun:=(mem_ready.1 hr).1
   refine ⟨fun h=>(by rw [h] at hr;cases hr),fun j hj => ?_⟩
   have hjn:j<n:=by
    rcases Nat.lt_or_ge j n with h | h
    ·exact h
    ·exact absurd hj (tail_waits hs hc hn inv _ i rfl hin hun j h)
   refine ⟨hjn,?_⟩
   by_cases hji:j=i
   ·subst hji;exact hy.wpOp hi hS ⟨hS,H⟩
   ·have:=hdone _ _ _ H j (ready_mono hj hji)
    omega
 | succ f ih =>
   intro listed a w inv hfree hr hy hS H
   have hun:=(mem_ready.1 hr).1
   refine ⟨fun h=>(by rw [h] at hr;cases hr),fun j hj => ?_⟩
   have hjn:j<n:=by
    rcases Nat.lt_or_ge j n with h | h
    ·exact h
    ·exact absurd hj (tail_waits hs hc hn inv _ i rfl hin hun j h)
   refine ⟨hjn,?_⟩
   by_cases hji:j=i
   ·subst hji;exact hy.wpOp hi hS ⟨hS,H⟩
   ·have h1:=(H.2 j (ready_mono hj hji)).2
    obtain ⟨hjun,oj,hoj,hall⟩:=mem_ready.1 hj
    have hnot:∀ e∈oj.after,Region.binds md e=true→e.on≠i:=fun e he hb heq=>by
     have h1:=hall e he hb
     rw [heq,getD_both hun] at h1
     cases h1
    have h2:=wpOp_putIf hoj (hfree j oj hoj hji hjun hnot) (fun cs b=>hsel i oi cs b hi) (fun cs b=>hsel j oj cs b hoj) hQ hy h1
    have hfree':∀ k ok,ops[k]? = some ok→k≠i→(listed.setIfInBounds j true).getD k true=false →
      (∀ e∈ok.after,Region.binds md e=true→e.on≠i)→oi.apart ops ok=true:=fun k ok hk hki hun hno=>by
     refine hfree k ok hk hki ?_ hno
     by_cases hjk:j=k
     ·subst hjk;exact hjun
     ·rw [getD_set_ne true hjk] at hun;exact hun
    refine wpOp_mono (fun a' w' h3=>⟨h3.2.1,ih (listed.setIfInBounds j true) a' w' (inv.set hj hjn) hfree' (ready_mono hr (Ne.symm hji)) h3.1 h3.2.1 ?_⟩) h2
    rw [Array.setIfInBounds_comm _ _ hji]
    exact h3.2.2
def Way (p:Prop):Prop:=p
theorem Way.out {p:Prop} (h:Way p):p:=h
def walk (T:Nat→Prop) (P:Program) (ops:Array Oper) (Q:Exit→Act→World→Prop) (E:Act→World→Prop):List (Option Oper×Bool)→Act→World→Prop
 | [],a,w=>E a w
 | (some o,true)::rest,a,w=>∃ v,YieldsIf P ops (Kep T w) o v a∧walk T P ops Q E rest (a.put o.dst v) w
 | (some o,false)::rest,a,w=>∀ K:Act→World→Prop,(∀ a' w',Kep T w w'→walk T P ops Q E rest a' w'→K a' w')→if Region.wanted o (yielded ops a.tmps)=true then o.wp P a w K Q else K (a.put o.dst undef) w
 | (none,_)::_,_,_=>False
def ordered (ops:Array Oper) (l:List (Nat×Bool)):List (Option Oper×Bool):=l.map fun p=>(ops[p.1]?,p.2)
def planned (md:Region.Mode) (ops:Array Oper) (n g:Nat):List (Nat×Bool)→Array Bool→Bool
 | [],listed=>Region.seqB md ops g n listed
 | (i,true)::rest,listed=>Region.free md ops listed i&&(Region.ready md ops listed).contains i&&decide (i<n)&&planned md ops n g rest (listed.setIfInBounds i true)
 | (i,false)::rest,listed=>(Region.ready md ops listed == [i])&&decide (i<n)&&planned md ops n g rest (listed.setIfInBounds i true)
theorem HL_weaken {S S':World→Prop} (hS:∀ w,S' w→S w) {n:Nat} {L:Array Bool→Act→World→Prop}:∀ (f:Nat) (listed:Array Bool) (a:Act) (w:World),HL P md ops Q S' n L f listed a w→HL P md ops Q S n L f listed a w
 | 0,_,_,_,h=>h
 | f+1,_,_,_,h=>⟨h.1,fun i hi=>⟨(h.2 i hi).1,wpOp_mono (fun a' w' h'=>⟨hS _ h'.1,HL_weaken hS f _ a' w' h'.2⟩) (h.2 i hi).2⟩⟩
theorem HL_of_walk {T:Nat→Prop} {E:Act→World→Prop} {n g:Nat} (hsel:Region.noSelect ops=true) (hs:Region.sinkB md ops n=true) (hc:Region.chainB md ops n=true) (hn:n<ops.size)
  (hQ:∀ c a d v w,Q (.panic c) (Act.put a d v) w→Q (.panic c) a w) :
  ∀ (l:List (Nat×Bool)) (listed:Array Bool) (a:Act) (w:World),planned md ops n g l listed=true→HeadInv md ops n listed→walk T P ops Q E (ordered ops l) a w →
    HL P md ops Q (Kep T w) n (fun listed' a' w'=>Region.seqB md ops g n listed'=true∧E a' w') l.length listed a w
 | [],listed,a,w,hp,inv,h=>⟨hp,h⟩
 | (i,b)::rest,listed,a,w,hp,inv,h=>by
   have h':walk T P ops Q E ((ops[i]?,b)::ordered ops rest) a w:=h
   cases ho:ops[i]? with
   | none=>rw [ho] at h';cases b<;>exact h'.elim
   | some o =>
     rw [ho] at h'
     cases b with
     | true =>
       obtain ⟨v,hy,hr⟩:=h'
       simp only [planned,Bool.and_eq_true,decide_eq_true_eq] at hp
       obtain ⟨⟨⟨hf,hrd⟩,hin⟩,hrest⟩:=hp
       have hrd':i∈Region.ready md ops listed:=by simpa using hrd
       exact first ho (Region.noSelect_spec hsel) hs hc hn hin (fun c a w=>hQ c a _ _ w) (fun listed' a' w' hL=>seqB_ready hL.1) rest.length listed a w inv (Region.free_spec ho hf) hrd' hy (Kep.refl _ w)
        (HL_of_walk hsel hs hc hn hQ rest _ _ _ hrest (inv.set hrd' hin) hr)
     | false =>
       simp only [planned,Bool.and_eq_true,decide_eq_true_eq] at hp
       obtain ⟨⟨hrd,hin⟩,hrest⟩:=hp
       have hrd':Region.ready md ops listed=[i]:=by simpa using hrd
       refine ⟨by rw [hrd'];simp,fun j hj => ?_⟩
       obtain rfl:j=i:=by rw [hrd'] at hj;simpa using hj
       refine ⟨hin,wpOp_step ho (fun K hK=>h' K (fun a' w' h1 h2=>hK a' w' ⟨h1,HL_weaken (fun W hW=>h1.trans hW) _ _ _ _ (HL_of_walk hsel hs hc hn hQ rest _ _ _ hrest (inv.set hj hin) h2)⟩))⟩
def goodB (ops:Array Oper) (l:List (Nat×Bool)):Bool :=
 Region.noSelect ops&&decide (l.length<ops.size)&&Region.sinkB .any ops l.length&&Region.chainB .any ops l.length&&planned .any ops l.length (ops.size - l.length) l (Array.replicate ops.size false)
theorem begin_ {T:Nat→Prop} (l:List (Nat×Bool)) {id:Nat} {a:Act} {w:World} (hm:P.follows .mixedOrders=true) (hB:goodB ops l=true) (hQ:∀ c a d v w,Q (.panic c) (Act.put a d v) w→Q (.panic c) a w)
  (h:walk T P ops Q (fun a' w'=>wpList P ops Q (ops.toList.drop l.length) a' w') (ordered ops l) a w.drew):(Code.region id ops true).wp P Q a w:=by
 simp only [goodB,Bool.and_eq_true,decide_eq_true_eq] at hB
 obtain ⟨⟨⟨⟨hsel,hn⟩,hs⟩,hc⟩,hp⟩:=hB
 have inv0:HeadInv .any ops l.length (Array.replicate ops.size false) :=
  ⟨by simp,fun j oj _ hl=>(by rw [getD_replicate_false] at hl;cases hl),fun t _ ht=>getD_in (by simpa using ht) (getD_replicate_false _ _)⟩
 have H:=HL_of_walk (md:=.any) hsel hs hc hn hQ l (Array.replicate ops.size false) a w.drew hp inv0 h
 refine wp_region_any hm ?_
 have hdl:(ops.toList.drop l.length).length=ops.size - l.length:=by simp
 have:=any_of_head (Q:=Q) (g:=ops.size - l.length) (fun listed a' w' hL=>by
  have:=wpAny_of_seq (md:=.any) (Q':=Q) (ops:=ops) (ops.toList.drop l.length) l.length listed a' w' (fun j=>by simp [List.getElem?_drop]) (by rw [hdl];exact hL.1) hL.2
  rwa [hdl] at this) _ _ _ _ H
 rw [show l.length+(ops.size - l.length)=ops.size by omega] at this
 exact this
variable {T : Nat → Prop} {E : Act → World → Prop}
theorem take {rest:List (Option Oper×Bool)} {a:Act} {w:World} {o:Oper} {v:Value} (hw:Region.wanted o (yielded ops a.tmps)=true)
  (hy:∀ W,Kep T w W→(execOp a.eval o).run P W=.ok (.value v) W) (h:walk T P ops Q E rest (a.put o.dst v) w):walk T P ops Q E ((some o,true)::rest) a w :=
 ⟨v,.inl ⟨hw,hy⟩,h⟩
theorem skip {rest:List (Option Oper×Bool)} {a:Act} {w:World} {o:Oper} (hw:Region.wanted o (yielded ops a.tmps)=false)
  (h:walk T P ops Q E rest (a.put o.dst undef) w):walk T P ops Q E ((some o,true)::rest) a w :=
 ⟨undef,.inr ⟨hw,rfl⟩,h⟩
theorem alone {rest:List (Option Oper×Bool)} {a:Act} {w:World} {o:Oper} (hw:Region.wanted o (yielded ops a.tmps)=true)
  (h:∀ K:Act→World→Prop,Way (∀ a' w',Kep T w w'→walk T P ops Q E rest a' w'→K a' w')→o.wp P a w K Q):walk T P ops Q E ((some o,false)::rest) a w:=by
 intro K hK
 rw [if_pos hw]
 exact h K hK
theorem done {a:Act} {w:World} (h:E a w):walk T P ops Q E [] a w:=h
end
end Go.Proofs.YtdfibahafilklaaGreatDoor.RS
