import Derived.Test.YtidhgicajlaafaaGreatZD12
import Derived.Test.YtidhgicajlaafaaGreatZD29
set_option maxRecDepth 100000
set_option maxHeartbeats 8000000
set_option linter.unusedVariables false
set_option linter.unusedSimpArgs false
namespace Go.Proofs.YtidhgicajlaafaaGreat.EV
open Go Go.RowKit MM EM SM
def tcC:Codec TCell where
 size:=2
 on:=fun _ _ vs x=>vs=encT x
 pos:=by decide
 len:=fun h=>by rw [h];rfl
 keep:=fun h _ _=>h
 one:=fun {_ _ _ x} h u hu=>by
  rw [h] at hu
  simp only [encT,List.mem_cons,List.not_mem_nil,or_false] at hu
  rcases hu with rfl | rfl
  ·rfl
  ·exact x.2.2
theorem termE:Elem tcC Tryz.prog 118 120 40:=⟨Tryz.underlying118,by
 have h:(Tryz.prog.info? 120).map (fun i=>(i.zero,i.size,i.bytes))=some (some (.agg #[.string ⟨#[]⟩,.slice none 0 0]),2,40):=by kernel_rfl
 obtain ⟨i,h1,h2,h3,h4⟩:=info_parts h
 exact ⟨i,_,h1,h2,h3,h4,rfl⟩⟩
theorem nodup_len {α:Type} [DecidableEq α]:∀ {a b:List α},a.Nodup→(∀ x∈a,x∈b)→a.length≤b.length
 | [],b,_,_=>Nat.zero_le _
 | x::a,b,h,hs=>by
   obtain ⟨hx,ha⟩:=List.nodup_cons.1 h
   have hxb:=hs x (by simp)
   have:=nodup_len (a:=a) (b:=b.erase x) ha fun y hy=>(List.mem_erase_of_ne (fun e:y=x=>hx (by rw [← e];exact hy))).2 (hs y (by simp [hy]))
   rw [List.length_erase_of_mem hxb] at this
   have hl:0<b.length:=List.length_pos_of_mem hxb
   rw [List.length_cons]
   omega
theorem posOf_mem {α:Type}:∀ {T:List (EM.Tr α)} {s:List UInt8},posOf T s≠[]→s∈T.map (·.1)
 | [],s,h=>absurd rfl h
 | t::r,s,h=>by
   rw [posOf] at h
   by_cases e:t.1=s
   ·simp [e]
   ·rw [if_neg e] at h
    have:=posOf_mem h
    rw [List.map_cons]
    exact List.mem_cons_of_mem _ this
structure Coll (F:List UInt8→Option Value) (left:List UInt8→Bool) (d:List TCell):Prop where
 val:∀ x∈d,F x.1=some x.2.1∧left x.1=false
 nodup:(d.map (·.1)).Nodup
 all:∀ s,(F s).isSome=true→left s=true∨s∈d.map (·.1)
theorem Coll.start (F:List UInt8→Option Value):Coll F (fun n=>(F n).isSome) []:=⟨fun _ h=>(by cases h),List.nodup_nil,fun s h=>.inl h⟩
theorem Coll.next {F:List UInt8→Option Value} {left:List UInt8→Bool} {d:List TCell} (h:Coll F left d) {n:List UInt8} {v:Value} (hv:v.oneCell'=true) (hl:left n=true) (hF:F n=some v) :
  Coll F (fun k=>left k && !decide (k=n)) (d++[(n,⟨v,hv⟩)]):=by
 refine ⟨fun x hx => ?_,?_,fun s hs => ?_⟩
 ·rcases List.mem_append.1 hx with hx | hx
  ·exact ⟨(h.val x hx).1,by simp [(h.val x hx).2]⟩
  ·obtain rfl:=List.mem_singleton.1 hx
   exact ⟨hF,by simp⟩
 ·rw [List.map_append,List.nodup_append]
  refine ⟨h.nodup,by simp,fun a ha b hb e => ?_⟩
  simp only [List.map_cons,List.map_nil,List.mem_singleton] at hb
  subst hb
  subst e
  obtain ⟨x,hx,hxn⟩:=List.mem_map.1 ha
  have:=(h.val x hx).2
  rw [hxn,hl] at this
  cases this
 ·by_cases e:s=n
  ·exact .inr (by simp [e])
  ·rcases h.all s hs with h1 | h1
   ·exact .inl (by simp [h1,e])
   ·exact .inr (by rw [List.map_append];exact List.mem_append_left _ h1)
theorem posOf_map (f:List UInt8→List Int):∀ (d:List TCell) (s:List UInt8),posOf (d.map fun x=>((x.1,f x.1):Trm)) s=if s∈d.map (·.1) then f s else []
 | [],s=>by simp [posOf]
 | x::d,s=>by
   rw [List.map_cons,posOf,posOf_map f d s]
   by_cases e:x.1=s
   ·subst e;simp
   ·rw [if_neg e]
    have:(s∈(x::d).map (·.1))↔s∈d.map (·.1):=by
     rw [List.map_cons,List.mem_cons]
     exact ⟨fun h=>h.resolve_left fun h2=>e h2.symm,.inr⟩
    by_cases hm:s∈d.map (·.1)
    ·rw [if_pos hm,if_pos (this.2 hm)]
    ·rw [if_neg hm,if_neg fun h=>hm (this.1 h)]
theorem coll_sorted {B mb:Nat} {T:List Trm} {F:List UInt8→Option Value} {w:World} (hP:Plc B mb T F w) {left:List UInt8→Bool} {d d':List TCell} (h:Coll F left d) (hl:∀ n,left n=false) (hp:d'.Perm d) (hs:d'.Pairwise fun x y=>lessL y.1 x.1=false) :
  (d'.map fun x=>((x.1,posOf T x.1):Trm))=T:=by
 have hnd:(d'.map (·.1)).Nodup:=(hp.map (·.1)).nodup_iff.2 h.nodup
 refine rising_unique ?_ hP.rise ?_ hP.ne fun s => ?_
 ·unfold Rising
  rw [List.pairwise_map]
  have h2:d'.Pairwise fun x y=>x.1≠y.1:=by
   have:=hnd
   unfold List.Nodup at this
   rwa [List.pairwise_map] at this
  exact (hs.and h2).imp fun ⟨h1,h3⟩=>lessL_total h1 (fun e=>h3 e.symm)
 ·intro t ht
  obtain ⟨x,hx,rfl⟩:=List.mem_map.1 ht
  exact (hP.own x.1 _ (h.val x (hp.mem_iff.1 hx)).1).2.1
 ·rw [posOf_map]
  by_cases e:s∈d'.map (·.1)
  ·rw [if_pos e]
  ·rw [if_neg e]
   refine (hP.none s ?_).symm
   cases hf:F s with
   | none=>rfl
   | some v =>
     rcases h.all s (by rw [hf];rfl) with h1 | h1
     ·rw [hl] at h1;cases h1
     ·exact absurd ((hp.map (·.1)).mem_iff.2 h1) e
theorem coll_len {B mb:Nat} {T:List Trm} {F:List UInt8→Option Value} {w:World} (hP:Plc B mb T F w) {left:List UInt8→Bool} {d:List TCell} (h:Coll F left d):d.length≤T.length:=by
 have:=nodup_len (b:=T.map (·.1)) h.nodup fun s hs=>by
  obtain ⟨x,hx,rfl⟩:=List.mem_map.1 hs
  exact posOf_mem (hP.own x.1 _ (h.val x hx).1).2.1
 simpa using this
theorem flat_cells {raw:List (List Value)} {n:Nat} (hn:0<n) (hl:∀ r∈raw,r.length=n) {w:World} {b off:Nat} (h:∀ i (hi:i<raw.length) j u,raw[i][j]? = some u→w.cell? ⟨b,off+i*n+j,none⟩=some u) :
  ∀ j u,raw.flatten[j]? = some u→w.cell? ⟨b,off+j,none⟩=some u:=fun j u hj=>by
 have hjl:=(List.getElem?_eq_some_iff.1 hj).1
 rw [flat_len hl] at hjl
 have hi:j / n<raw.length:=(Nat.div_lt_iff_lt_mul hn).2 hjl
 have hmod:=Nat.mod_lt j hn
 have hdm:=Nat.div_add_mod j n
 have hli:=hl raw[j / n] (List.getElem_mem hi)
 obtain ⟨u',hu'⟩:∃ u,raw[j / n][j%n]? = some u:=⟨_,List.getElem?_eq_getElem (l:=raw[j / n]) (i:=j%n) (by omega)⟩
 have hf:=flat_get hl (j / n) hi (j%n) u' hu'
 have e:j / n*n+j%n=j:=by rw [Nat.mul_comm];exact hdm
 rw [e,hj] at hf
 obtain rfl:=Option.some.inj hf
 have:=h _ hi _ _ hu'
 rw [Nat.add_assoc,e] at this
 exact this
theorem own_from {B:Nat} {w:World} {v:Value} {zs:List Int} (h:OwnZ w v zs∧zs≠[]∧∀ g,v.ownBlock=some g→B≤g):ROn cInt (fun b=>B≤b) w v zs:=OwnS.ron h.1 (fun g hg=>h.2.2 g hg) fun _ _ h=>h.elim
theorem coll_new {B mb:Nat} {T:List Trm} {F:List UInt8→Option Value} {w:World} (hP:Plc B mb T F w) {left:List UInt8→Bool} {d d':List TCell} (h:Coll F left d) (hl:∀ n,left n=false) (hp:d'.Perm d) (hs:d'.Pairwise fun x y=>lessL y.1 x.1=false)
  {g cap:Nat} (hc:CellsT w g d') (hg:g<w.heap.size) (hcap:d.length≤cap) (hcm:cap≤maxLen) (hgB:B≤g):RNew B w (.slice (some ⟨g,0,none⟩) d.length cap) T:=by
 have hT:=coll_sorted hP h hl hp hs
 have hlen:T.length=d.length:=by rw [← hT,List.length_map];exact hp.length_eq
 refine ⟨some ⟨g,0,none⟩,cap,d'.map encT,by rw [hlen],by rw [hlen];exact hcap,hcm,(fun e=>by cases e),⟨by rw [List.length_map,← hT,List.length_map],fun i hi hi' => ?_⟩,.inr ⟨g,0,rfl,hg,hgB,?_⟩⟩
 ·have hi2:i<d'.length:=by simpa using hi
  have e:T[i]=(d'[i].1,posOf T d'[i].1):=by
   have:T[i]? = some (d'[i].1,posOf T d'[i].1):=by
    conv=>lhs;rw [← hT]
    simp [hi2]
   exact (List.getElem?_eq_some_iff.1 this).2
  rw [List.getElem_map,e,trm_on]
  exact ⟨d'[i].2.1,rfl,own_from (hP.own _ _ (h.val d'[i] (hp.mem_iff.1 (List.getElem_mem hi2))).1)⟩
 ·refine flat_cells (n:=2) (by omega) (fun r hr=>by obtain ⟨x,_,rfl⟩:=List.mem_map.1 hr;rfl) fun i hi j u hj => ?_
  have hi2:i<d'.length:=by simpa using hi
  rw [List.getElem_map] at hj
  rw [Nat.zero_add]
  match j,hj with
  | 0,hj =>
    obtain rfl:=Option.some.inj hj
    exact (hc i hi2).1
  | 1,hj =>
    obtain rfl:=Option.some.inj hj
    exact (hc i hi2).2
theorem ownT_kep {S:Nat→Prop} {B:Nat} {w w':World} {v:Value} {d:List TCell} (h:OwnC tcC 120 B w v d) (hk:Kep S w w') (hS:∀ g,v.ownBlock=some g→S g):OwnC tcC 120 B w' v d:=by
 obtain ⟨raw,h1,h2⟩:=h
 exact ⟨raw,own_row_kep h1 hk hS,h2.1,fun i hi hi'=>h2.2 i hi hi'⟩
theorem ownT_start {B:Nat} {w:World} {v:Value} (h:w.ownsRow B 120 2 v 0 []):OwnC tcC 120 B w v []:=⟨[],h,Mean.nil_ _ _⟩
theorem ownT_some {B:Nat} {w:World} {v:Value} {d:List TCell} (h:OwnC tcC 120 B w v d) (hd:d≠[]):∃ g cap,v=.slice (some ⟨g,0,none⟩) d.length cap:=by
 obtain ⟨raw,h1,h2⟩:=h
 rcases h1.2 with ⟨_,h0⟩ | ⟨g,cap,cur,hv,_⟩
 ·exact absurd (List.eq_nil_of_length_eq_zero h0) hd
 ·exact ⟨g,cap,hv⟩
def TermsOf (w:World) (g:Nat):Prop:=∃ cur fr,w.heap[g]? = some (.cells cur 120 fr)
theorem ownT_cells {B g cap:Nat} {w:World} {d:List TCell} (h:OwnC tcC 120 B w (.slice (some ⟨g,0,none⟩) d.length cap) d):CellsT w g d∧(∀ j,w.frozen? ⟨g,j,none⟩=false)∧g<w.heap.size∧d.length≤cap∧cap≤maxLen∧B≤g∧TermsOf w g:=by
 have hlt:=OwnC.lt h g rfl
 have hfr:∀ j,w.frozen? ⟨g,j,none⟩=false:=by
  obtain ⟨raw,h1,_⟩:=h
  exact fun j=>World.ownsRow.frozenAt h1 j
 have htm:TermsOf w g:=by
  obtain ⟨raw,h1,_⟩:=h
  exact (own_cells h1 rfl).2
 obtain ⟨p,cap',hv,hc1,hc2,_⟩:=h.shape
 simp only [Value.slice.injEq] at hv
 obtain ⟨_,_,rfl⟩:=hv
 refine ⟨fun i hi => ?_,hfr,hlt.2,hc1,hc2,hlt.1,htm⟩
 obtain ⟨vs,hon,hcell,_⟩:=OwnC.elem h hi
 have hon:vs=encT d[i]:=hon
 subst hon
 exact ⟨hcell 0 _ rfl,hcell 1 _ rfl⟩
theorem terms_ints {w:World} {g:Nat} (h:TermsOf w g) (hg:IntsOf w g):False:=by
 obtain ⟨c1,f1,h1⟩:=h
 obtain ⟨c2,f2,h2⟩:=hg
 rw [h1] at h2
 simp only [Option.some.injEq,Obj.cells.injEq] at h2
 exact absurd h2.2.1 (by decide)
theorem terms_map {w:World} {g m:Nat} {F:List UInt8→Option Value} (h:TermsOf w g) (hm:MapV w g m F):False:=by
 obtain ⟨c1,f1,h1⟩:=h
 obtain ⟨es,c,h2⟩:=hm.obj
 rw [h1] at h2
 cases h2
theorem terms_walk {w:World} {g mb m cnt:Nat} {F:List UInt8→Option Value} {left:List UInt8→Bool} (h:TermsOf w g) (hr:RangeV w mb g m F left cnt):False:=by
 obtain ⟨c1,f1,h1⟩:=h
 obtain ⟨D,lf,hr,_⟩:=hr
 obtain ⟨es,clock,since,seen,c0,g1,g2,g3,g4,g5,rest⟩:=hr
 rw [h1] at g5
 cases g5
theorem OwnZ.shape {w:World} {v:Value} {zs:List Int} (h:OwnZ w v zs):∃ p c,v=.slice p zs.length c:=by
 obtain ⟨p,c,hv,_⟩:=(OwnS.any h).shape
 exact ⟨p,c,hv⟩
end Go.Proofs.YtidhgicajlaafaaGreat.EV
