import Derived.Test.YtidhgicajlaafaaGreatZD34
import Derived.Test.YtidhgicajlaafaaGreatZD11
set_option maxRecDepth 100000
set_option maxHeartbeats 8000000
set_option linter.unusedVariables false
set_option linter.unusedSimpArgs false
namespace Go.Proofs.YtidhgicajlaafaaGreat.MM
open Go Go.RowKit
section
variable {α : Type} (C : Codec α)
def HalfX (e:TypeId) (S:Nat→Prop) (w:World) (g n:Nat) (es:List α):Prop :=
 g<w.heap.size∧w.there g 0 (n*C.size)∧∃ raw,Mean C S w raw es∧w.rangeAt g 0 raw.flatten
variable {C}
theorem HalfX.start {e:TypeId} {S:Nat→Prop} {B:Nat} {w:World} {g n:Nat} {xs:List Value} (h:w.ownsRow B e C.size (.slice (some ⟨g,0,none⟩) n n) n xs):HalfX C e S w g n []:=by
 rcases h.2 with ⟨hv,_⟩ | ⟨g',cap,cur,hv,hb,hh,hn,hm,hs,ht⟩
 ·cases hv
 ·simp only [Value.slice.injEq,Option.some.injEq,Addr.mk.injEq] at hv
  obtain ⟨⟨rfl,_⟩,_,rfl⟩:=hv
  refine ⟨(Array.getElem?_eq_some_iff.1 hh).1,fun j hj=>⟨?_,frozen_of_row w g _ cur _ hh⟩,[],Mean.nil_ _ _,fun j v hj=>by simp at hj⟩
  obtain ⟨u,hu⟩:∃ u,(cur.toList.take (n*C.size))[j]? = some u:=⟨_,List.getElem?_eq_getElem (by rw [List.length_take,Array.length_toList];omega)⟩
  have:=Lib.cells_of_row hh (n*C.size) j u hu
  rw [add_at] at this
  rw [this];rfl
theorem HalfX.keep {e:TypeId} {S T:Nat→Prop} {w w':World} {g n:Nat} {es:List α} (h:HalfX C e S w g n es) (hk:Kep T w w') (hg:T g) (hS:∀ b,b<w.heap.size→S b→T b):HalfX C e S w' g n es:=by
 obtain ⟨h1,h2,raw,hm,hr⟩:=h
 refine ⟨Nat.lt_of_lt_of_le h1 hk.size,fun j hj => ?_,raw,⟨hm.1,fun i hi hi' => ?_⟩,fun j v hj => ?_⟩
 ·have hb:=hk.block g h1 hg
  rw [World.cell?_of_block (a:=⟨g,0+j,none⟩) hb,World.frozen?_of_block (a:=⟨g,0+j,none⟩) hb]
  exact h2 j hj
 ·exact C.keep (C.keep (hm.2 i hi hi') (Kep.refl _ _) (T:=fun b=>S b∧b<w.heap.size) fun b hb hs=>⟨hs,hb⟩) (hk.mono' (T:=fun b=>S b∧b<w.heap.size) fun b hb hs=>hS b hb hs.1) fun b hb hs=>hs.1
 ·rw [hk.cell h1 hg];exact hr j v hj
theorem kep_sets {g:Nat} (vs:List Value):∀ (w:World) (o:Nat),Kep (fun b=>b≠g) w (w.setCells g o vs):=by
 induction vs with
 | nil=>exact fun w _=>Kep.refl _ w
 | cons v vs ih=>exact fun w o=>(kep_set (fun h=>h rfl) v).trans (ih _ _)
theorem HalfX.there {e:TypeId} {S:Nat→Prop} {w:World} {g n:Nat} {es:List α} (h:HalfX C e S w g n es) {k:Nat} (hk:k<n):w.there g (k*C.size) C.size:=fun j hj=>by
 have hm:=Nat.mul_le_mul_right C.size (show k+1≤n from hk)
 rw [Nat.succ_mul] at hm
 have:=h.2.1 (k*C.size+j) (by omega)
 rw [Nat.zero_add] at this
 exact this
theorem HalfX.next {e:TypeId} {S:Nat→Prop} {w:World} {g n:Nat} {es:List α} (h:HalfX C e S w g n es) (hk:es.length<n) {vs:List Value} {d:α} (hd:C.on S w vs d) (hS:¬ S g) :
  HalfX C e S (w.setCells g (es.length*C.size) vs) g n (es++[d]):=by
 have hth:=h.there hk
 obtain ⟨h1,h2,raw,hm,hr⟩:=h
 have hl:=C.len hd
 have hks:Kep (fun b=>b≠g) w (w.setCells g (es.length*C.size) vs):=kep_sets vs w _
 have hkS:Kep S w (w.setCells g (es.length*C.size) vs):=hks.mono fun b hb e=>hS (e▸hb)
 refine ⟨Nat.lt_of_lt_of_le h1 hks.size,World.there_setCells h2 _ _ _,raw++[vs],(hm.append (Mean.single hd)).keep hkS fun _ _ h=>h,?_⟩
 have hfl:=flat_len hm.lens
 have e1:=World.rangeAt_setCells_apart hr g (es.length*C.size) vs (.inr (.inl (by rw [hfl,hm.1];omega)))
 have e2:=World.rangeAt_setCells_same w g (es.length*C.size) vs (by rw [hl];exact hth)
 intro j v hj
 rw [List.flatten_append,List.flatten_singleton] at hj
 by_cases hlt:j<raw.flatten.length
 ·rw [List.getElem?_append_left hlt] at hj
  exact e1 j v hj
 ·rw [List.getElem?_append_right (by omega)] at hj
  have:=e2 _ v hj
  rw [hfl,hm.1] at this
  rw [hfl,hm.1] at hlt
  rw [show es.length*C.size+(j - es.length*C.size)=0+j by omega] at this
  exact this
theorem HalfX.ron {e:TypeId} {S T:Nat→Prop} {w:World} {g n:Nat} {es:List α} (h:HalfX C e S w g n es) (hn:es.length=n) (hm:n≤maxLen) (hg:T g) (hS:∀ b,b<w.heap.size→S b→T b):ROn C T w (.slice (some ⟨g,0,none⟩) n n) es:=by
 obtain ⟨h1,h2,raw,hmn,hr⟩:=h
 subst hn
 exact ⟨some ⟨g,0,none⟩,es.length,raw,rfl,Nat.le_refl _,hm,(fun h=>by cases h),hmn.keep (Kep.refl _ _) hS,.inr ⟨g,0,rfl,h1,hg,hr⟩⟩
end
end Go.Proofs.YtidhgicajlaafaaGreat.MM
namespace Go.Proofs.YtidhgicajlaafaaGreat.MM
open Go Go.RowKit
def RowG (e:TypeId) (w:World) (g m:Nat):Prop:=∃ cur,w.heap[g]? = some (.cells cur e (0,0))∧cur.size=m
theorem RowG.keep {e:TypeId} {S:Nat→Prop} {w w':World} {g m:Nat} (h:RowG e w g m) (hk:Kep S w w') (hg:S g):RowG e w' g m:=by
 obtain ⟨cur,h1,h2⟩:=h
 exact ⟨cur,(hk.block g (Array.getElem?_eq_some_iff.1 h1).1 hg).trans h1,h2⟩
theorem RowG.set {e:TypeId} {w:World} {g m:Nat} (h:RowG e w g m) (i:Nat) (v:Value):RowG e (w.setCell ⟨g,i,none⟩ v) g m:=by
 obtain ⟨cur,h1,h2⟩:=h
 exact ⟨_,heap_setCell_same w g i cur e v h1,by simp [h2]⟩
theorem RowG.sets {e:TypeId} {g m:Nat} (vs:List Value):∀ {w:World} (_:RowG e w g m) (o:Nat),RowG e (w.setCells g o vs) g m:=by
 induction vs with
 | nil=>exact fun h _=>h
 | cons v vs ih=>exact fun h o=>ih (h.set o v) _
theorem RowG.start {e:TypeId} {B k:Nat} {w:World} {g n:Nat} {xs:List Value} (h:w.ownsRow B e k (.slice (some ⟨g,0,none⟩) n n) n xs):RowG e w g (n*k):=by
 rcases h.2 with ⟨hv,_⟩ | ⟨g',cap,cur,hv,hb,hh,hn,hm,hs,ht⟩
 ·cases hv
 ·simp only [Value.slice.injEq,Option.some.injEq,Addr.mk.injEq] at hv
  obtain ⟨⟨rfl,_⟩,_,rfl⟩:=hv
  exact ⟨cur,hh,hs⟩
theorem HalfX.own {α:Type} {C:Codec α} {e:TypeId} {S:Nat→Prop} {w:World} {g n:Nat} {es:List α} (h:HalfX C e S w g n es) (hr:RowG e w g (n*C.size)) (hn:es.length=n) (hm:n≤maxLen) (hg:¬ S g):OwnS C e S w (.slice (some ⟨g,0,none⟩) n n) es:=by
 obtain ⟨h1,h2,raw,hmn,hra⟩:=h
 obtain ⟨cur,hc,hs⟩:=hr
 subst hn
 have hfl:raw.flatten.length=es.length*C.size:=by
  have:∀ r∈raw,r.length=C.size:=fun r hr=>by
   obtain ⟨j,hj,rfl⟩:=List.getElem_of_mem hr
   exact C.len (hmn.2 j hj (by have:=hmn.1;omega))
  rw [flat_len this,hmn.1]
 refine ⟨raw,⟨hfl,.inr ⟨g,es.length,cur,rfl,Nat.zero_le _,hc,Nat.le_refl _,hm,hs,?_⟩⟩,hmn,fun g' hg' hS => ?_⟩
 ·refine List.ext_getElem? fun j => ?_
  by_cases hj:j<raw.flatten.length
  ·have h3:=hra j _ (List.getElem?_eq_getElem hj)
   rw [cell_of_row w g _ _ _ _ hc,Nat.zero_add] at h3
   rw [List.getElem?_take_of_lt (by omega),Array.getElem?_toList,h3,List.getElem?_eq_getElem hj]
  ·rw [List.getElem?_eq_none (l:=raw.flatten) (by omega),List.getElem?_eq_none (by rw [List.length_take];omega)]
 ·have:g=g':=by simpa [Value.ownBlock] using hg'
  subst this
  exact hg hS
end Go.Proofs.YtidhgicajlaafaaGreat.MM
namespace Go.Proofs.YtidhgicajlaafaaGreat.SG
open Go Go.RowKit MM PW
theorem ron_ion {S:Nat→Prop} {w:World} {v:Value} {zs:List Int} (h:ROn cInt S w v zs):IOn S w v zs:=by
 obtain ⟨p,cap,raw,hv,h1,h2,h3,hm,hc⟩:=h
 refine ⟨p,cap,hv,h1,h2,h3,?_⟩
 rcases hc with hc | ⟨b,off,hp,hlt,hS,hc⟩
 ·exact .inl hc
 ·refine .inr ⟨b,off,hp,hlt,hS,fun i hi => ?_⟩
  have hi':i<raw.length:=by rw [hm.1];exact hi
  have e:raw[i]=[.int .i64 zs[i]]:=hm.2 i hi' hi
  have hf:=flat_get hm.lens i hi' 0 (.int .i64 zs[i]) (by rw [e];rfl)
  have hz:cInt.size=1:=rfl
  rw [hz,Nat.mul_one,Nat.add_zero] at hf
  exact hc i _ hf
def cellsP:List Value→Int×Value
 | [.int _ z,u]=>(z,u)
 | _=>(0,.bool false)
theorem ron_pon {S:Nat→Prop} {w:World} {v:Value} {ps:List (Int×List Int)} (h:ROn postC S w v ps):POn S w v ps:=by
 obtain ⟨p,cap,raw,hv,h1,h2,h3,hm,hc⟩:=h
 have hon:∀ i (hi:i<raw.length) (hi':i<ps.length),∃ u,raw[i]=[.int .i64 ps[i].1,u]∧ROn cInt S w u ps[i].2:=fun i hi hi'=>by
  obtain ⟨x,y,hxy,hx,u,hy,hr⟩:=hm.2 i hi hi'
  have hx:x=[.int .i64 ps[i].1]:=hx
  exact ⟨u,by rw [hxy,hx,hy];rfl,hr⟩
 refine ⟨p,cap,raw.map cellsP,hv,h1,h2,h3,⟨by rw [List.length_map];exact hm.1,fun i hi hi' => ?_⟩,?_⟩
 ·rw [List.length_map] at hi
  obtain ⟨u,e,hr⟩:=hon i hi hi'
  rw [List.getElem_map,e]
  exact ⟨rfl,ron_ion hr⟩
 ·rcases hc with hc | ⟨b,off,hp,hlt,hS,hc⟩
  ·exact .inl hc
  ·refine .inr ⟨b,off,hp,hlt,hS,fun i hi => ?_⟩
   rw [List.length_map] at hi
   have hi':i<ps.length:=by rw [← hm.1];exact hi
   obtain ⟨u,e,hr⟩:=hon i hi hi'
   have hz:postC.size=2:=rfl
   have f0:=flat_get hm.lens i hi 0 (.int .i64 ps[i].1) (by rw [e];rfl)
   have f1:=flat_get hm.lens i hi 1 u (by rw [e];rfl)
   rw [hz,Nat.add_zero] at f0
   rw [hz] at f1
   rw [List.getElem_map,e]
   exact ⟨hc _ _ f0,by have:=hc _ _ f1;rw [← Nat.add_assoc] at this;exact this⟩
end Go.Proofs.YtidhgicajlaafaaGreat.SG
