import Derived.Test.YtdfbkhpkffpckaaZA18
import Derived.Deep.MidRow
set_option maxRecDepth 100000
set_option maxHeartbeats 8000000
set_option linter.unusedVariables false
set_option linter.unusedSimpArgs false
namespace Go.Proofs.Ytdfbkhpkffpckaa.MM
open Go Go.RowKit
section
variable {α : Type} (C : Codec α)
def HalfX (e:TypeId) (S:Nat→Prop) (w:World) (g n:Nat) (es:List α):Prop :=
 g<w.heap.size∧w.there g 0 (n*C.size)∧∃ raw,Mean C S w raw es∧w.rangeAt g 0 raw.flatten
variable {C}
theorem HalfX.start {e:TypeId} {S:Nat→Prop} {B:Nat} {w:World} {g n:Nat} {xs:List Value} (h:w.ownsRow B e C.size (.slice (some ⟨g,0,none⟩) n n) n xs):HalfX C e S w g n []:=by
 rcases h.2 with ⟨hv,_⟩ | ⟨g',cap,cur,hv,hb,hh,hn,hm,hs,ht⟩
 ·cases hv
 ·simp only [Value.slice.injEq,Option.some.injEq,Addr.mk.injEq] at hv
  obtain ⟨⟨rfl,_⟩,_,rfl⟩:=hv
  refine ⟨(Array.getElem?_eq_some_iff.1 hh).1,fun j hj=>⟨?_,frozen_of_row w g _ cur _ hh⟩,[],Mean.nil_ _ _,fun j v hj=>by simp at hj⟩
  obtain ⟨u,hu⟩:∃ u,(cur.toList.take (n*C.size))[j]? = some u:=⟨_,List.getElem?_eq_getElem (by rw [List.length_take,Array.length_toList];omega)⟩
  have:=Lib.cells_of_row hh (n*C.size) j u hu
  rw [add_at] at this
  rw [this];rfl
theorem HalfX.keep {e:TypeId} {S T:Nat→Prop} {w w':World} {g n:Nat} {es:List α} (h:HalfX C e S w g n es) (hk:Kep T w w') (hg:T g) (hS:∀ b,b<w.heap.size→S b→T b):HalfX C e S w' g n es:=by
 obtain ⟨h1,h2,raw,hm,hr⟩:=h
 refine ⟨Nat.lt_of_lt_of_le h1 hk.size,fun j hj => ?_,raw,⟨hm.1,fun i hi hi' => ?_⟩,fun j v hj => ?_⟩
 ·have hb:=hk.block g h1 hg
  rw [World.cell?_of_block (a:=⟨g,0+j,none⟩) hb,World.frozen?_of_block (a:=⟨g,0+j,none⟩) hb]
  exact h2 j hj
 ·exact C.keep (C.keep (hm.2 i hi hi') (Kep.refl _ _) (T:=fun b=>S b∧b<w.heap.size) fun b hb hs=>⟨hs,hb⟩) (hk.mono' (T:=fun b=>S b∧b<w.heap.size) fun b hb hs=>hS b hb hs.1) fun b hb hs=>hs.1
 ·rw [hk.cell h1 hg];exact hr j v hj
theorem kep_sets {g:Nat} (vs:List Value):∀ (w:World) (o:Nat),Kep (fun b=>b≠g) w (w.setCells g o vs):=by
 induction vs with
 | nil=>exact fun w _=>Kep.refl _ w
 | cons v vs ih=>exact fun w o=>(kep_set (fun h=>h rfl) v).trans (ih _ _)
theorem HalfX.there {e:TypeId} {S:Nat→Prop} {w:World} {g n:Nat} {es:List α} (h:HalfX C e S w g n es) {k:Nat} (hk:k<n):w.there g (k*C.size) C.size:=fun j hj=>by
 have hm:=Nat.mul_le_mul_right C.size (show k+1≤n from hk)
 rw [Nat.succ_mul] at hm
 have:=h.2.1 (k*C.size+j) (by omega)
 rw [Nat.zero_add] at this
 exact this
theorem HalfX.next {e:TypeId} {S:Nat→Prop} {w:World} {g n:Nat} {es:List α} (h:HalfX C e S w g n es) (hk:es.length<n) {vs:List Value} {d:α} (hd:C.on S w vs d) (hS:¬ S g) :
  HalfX C e S (w.setCells g (es.length*C.size) vs) g n (es++[d]):=by
 have hth:=h.there hk
 obtain ⟨h1,h2,raw,hm,hr⟩:=h
 have hl:=C.len hd
 have hks:Kep (fun b=>b≠g) w (w.setCells g (es.length*C.size) vs):=kep_sets vs w _
 have hkS:Kep S w (w.setCells g (es.length*C.size) vs):=hks.mono fun b hb e=>hS (e▸hb)
 refine ⟨Nat.lt_of_lt_of_le h1 hks.size,World.there_setCells h2 _ _ _,raw++[vs],(hm.append (Mean.single hd)).keep hkS fun _ _ h=>h,?_⟩
 have hfl:=flat_len hm.lens
 have e1:=World.rangeAt_setCells_apart hr g (es.length*C.size) vs (.inr (.inl (by rw [hfl,hm.1];omega)))
 have e2:=World.rangeAt_setCells_same w g (es.length*C.size) vs (by rw [hl];exact hth)
 intro j v hj
 rw [List.flatten_append,List.flatten_singleton] at hj
 by_cases hlt:j<raw.flatten.length
 ·rw [List.getElem?_append_left hlt] at hj
  exact e1 j v hj
 ·rw [List.getElem?_append_right (by omega)] at hj
  have:=e2 _ v hj
  rw [hfl,hm.1] at this
  rw [hfl,hm.1] at hlt
  rw [show es.length*C.size+(j - es.length*C.size)=0+j by omega] at this
  exact this
theorem HalfX.ron {e:TypeId} {S T:Nat→Prop} {w:World} {g n:Nat} {es:List α} (h:HalfX C e S w g n es) (hn:es.length=n) (hm:n≤maxLen) (hg:T g) (hS:∀ b,b<w.heap.size→S b→T b):ROn C T w (.slice (some ⟨g,0,none⟩) n n) es:=by
 obtain ⟨h1,h2,raw,hmn,hr⟩:=h
 subst hn
 exact ⟨some ⟨g,0,none⟩,es.length,raw,rfl,Nat.le_refl _,hm,(fun h=>by cases h),hmn.keep (Kep.refl _ _) hS,.inr ⟨g,0,rfl,h1,hg,hr⟩⟩
end
end Go.Proofs.Ytdfbkhpkffpckaa.MM
namespace Go.Proofs.Ytdfbkhpkffpckaa.RK
open Go Go.RowKit MM
section
variable {T : Nat → Prop} {P : Program} {ops : Array Oper} {Q : Exit → Act → World → Prop} {md : Region.Mode}
theorem held_weaken {S S':World→Prop} (hS:∀ w,S' w→S w):∀ (fuel:Nat) (listed:Array Bool) (a:Act) (w:World),wpAnyH P md ops Q S' fuel listed a w→wpAnyH P md ops Q S fuel listed a w
 | 0,_,_,_,h=>h
 | fuel+1,_,_,_,h=>⟨h.1,fun i hi=>wpOp_mono (fun a' w' h'=>⟨hS _ h'.1,held_weaken hS fuel _ a' w' h'.2⟩) (h.2 i hi)⟩
def Way (p:Prop):Prop:=p
theorem Way.out {p:Prop} (h:Way p):p:=h
def walk (T:Nat→Prop) (P:Program) (ops:Array Oper) (Q:Exit→Act→World→Prop):List (Option Oper×Bool)→Act→World→Prop
 | [],a,w=>Q .normal a w
 | (some o,true)::rest,a,w=>∃ v,YieldsIf P ops (Kep T w) o v a∧walk T P ops Q rest (a.put o.dst v) w
 | (some o,false)::rest,a,w=>∀ K:Act→World→Prop,(∀ a' w',Kep T w w'→walk T P ops Q rest a' w'→K a' w')→if Region.wanted o (yielded ops a.tmps)=true then o.wp P a w K Q else K (a.put o.dst undef) w
 | (none,_)::_,_,_=>False
def ordered (ops:Array Oper) (l:List (Nat×Bool)):List (Option Oper×Bool):=l.map fun p=>(ops[p.1]?,p.2)
def planned (md:Region.Mode) (ops:Array Oper):List (Nat×Bool)→Array Bool→Bool
 | [],listed=>(Region.ready md ops listed).isEmpty
 | (i,true)::rest,listed=>Region.free md ops listed i&&(Region.ready md ops listed).contains i&&planned md ops rest (listed.setIfInBounds i true)
 | (i,false)::rest,listed=>(Region.ready md ops listed == [i])&&planned md ops rest (listed.setIfInBounds i true)
theorem held_of_walk (hs:Region.noSelect ops=true) (hQ:∀ c a d v w,Q (.panic c) (Act.put a d v) w→Q (.panic c) a w) :
  ∀ (l:List (Nat×Bool)) (listed:Array Bool) (a:Act) (w:World),planned md ops l listed=true→walk T P ops Q (ordered ops l) a w→wpAnyH P md ops Q (Kep T w) l.length listed a w
 | [],listed,a,w,hp,h=>⟨by simpa [planned] using hp,h⟩
 | (i,b)::rest,listed,a,w,hp,h=>by
   have h':walk T P ops Q ((ops[i]?,b)::ordered ops rest) a w:=h
   cases ho:ops[i]? with
   | none=>rw [ho] at h';cases b<;>exact h'.elim
   | some o =>
     rw [ho] at h'
     cases b with
     | true =>
       obtain ⟨v,hy,hr⟩:=h'
       simp only [planned,Bool.and_eq_true] at hp
       exact wpAnyH_take ho hs hp.1.1 hp.1.2 (fun c a w=>hQ c a _ _ w) hy (Kep.refl _ w) (held_of_walk hs hQ rest _ _ _ hp.2 hr)
     | false =>
       simp only [planned,Bool.and_eq_true] at hp
       refine wpAnyH_all (rs:=[i]) (by simpa using hp.1) (by simp) (fun j hj => ?_)
       obtain rfl:j=i:=by simpa using hj
       exact wpOp_step ho (fun K hK=>h' K (fun a' w' h1 h2=>hK a' w' ⟨h1,held_weaken (fun W hW=>h1.trans hW) _ _ _ _ (held_of_walk hs hQ rest _ _ _ hp.2 h2)⟩))
theorem begin_ (l:List (Nat×Bool)) {id:Nat} {a:Act} {w:World} (hm:P.follows .mixedOrders=true) (hs:Region.noSelect ops=true) (hl:l.length=ops.size)
  (hp:planned .any ops l (Array.replicate ops.size false)=true) (hQ:∀ c a d v w,Q (.panic c) (Act.put a d v) w→Q (.panic c) a w)
  (h:walk T P ops Q (ordered ops l) a w.drew):(Code.region id ops true).wp P Q a w:=by
 refine wp_region_held (S:=Kep T w.drew) hm ?_
 rw [← hl]
 have:=held_of_walk (md:=.any) hs hQ l (Array.replicate ops.size false) a w.drew hp h
 rw [← hl] at this
 exact this
theorem take {rest:List (Option Oper×Bool)} {a:Act} {w:World} {o:Oper} {v:Value} (hw:Region.wanted o (yielded ops a.tmps)=true)
  (hy:∀ W,Kep T w W→(execOp a.eval o).run P W=.ok (.value v) W) (h:walk T P ops Q rest (a.put o.dst v) w):walk T P ops Q ((some o,true)::rest) a w :=
 ⟨v,.inl ⟨hw,hy⟩,h⟩
theorem skip {rest:List (Option Oper×Bool)} {a:Act} {w:World} {o:Oper} (hw:Region.wanted o (yielded ops a.tmps)=false)
  (h:walk T P ops Q rest (a.put o.dst undef) w):walk T P ops Q ((some o,true)::rest) a w :=
 ⟨undef,.inr ⟨hw,rfl⟩,h⟩
theorem alone {rest:List (Option Oper×Bool)} {a:Act} {w:World} {o:Oper} (hw:Region.wanted o (yielded ops a.tmps)=true)
  (h:∀ K:Act→World→Prop,Way (∀ a' w',Kep T w w'→walk T P ops Q rest a' w'→K a' w')→o.wp P a w K Q):walk T P ops Q ((some o,false)::rest) a w:=by
 intro K hK
 rw [if_pos hw]
 exact h K hK
theorem alone_skip {rest:List (Option Oper×Bool)} {a:Act} {w:World} {o:Oper} (hw:Region.wanted o (yielded ops a.tmps)=false)
  (h:walk T P ops Q rest (a.put o.dst undef) w):walk T P ops Q ((some o,false)::rest) a w:=by
 intro K hK
 rw [if_neg (by rw [hw];exact Bool.false_ne_true)]
 exact hK _ _ (Kep.refl _ w) h
theorem done {a:Act} {w:World} (h:Q .normal a w):walk T P ops Q [] a w:=h
end
end Go.Proofs.Ytdfbkhpkffpckaa.RK
