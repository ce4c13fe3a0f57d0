import Derived.Test.YtdfbkhpkffpckaaZB14
set_option maxRecDepth 100000
set_option maxHeartbeats 8000000
set_option linter.unusedVariables false
set_option linter.unusedSimpArgs false
namespace Go.Proofs.Ytdfbkhpkffpckaa.MM
open Go Go.RowKit
def cVal:Codec Value where
 size:=1
 on:=fun _ _ vs u=>vs=[u]∧u.oneCell'=true
 pos:=by decide
 len:=fun h=>by rw [h.1];rfl
 keep:=fun h _ _=>h
 one:=fun h u hu=>by rw [h.1] at hu;simp at hu;rw [hu];exact h.2
abbrev RawP:=List UInt8×Value
def rawP:Codec RawP:=cPair cStr cVal
theorem raw_on {S:Nat→Prop} {w:World} {vs:List Value} {p:RawP}:rawP.on S w vs p↔vs=[.string ⟨p.1.toArray⟩,p.2]∧p.2.oneCell'=true:=by
 constructor
 ·rintro ⟨x,y,h,h1,h2,h3⟩
  have h1:x=[.string ⟨p.1.toArray⟩]:=h1
  exact ⟨by rw [h,h1,h2];rfl,h3⟩
 ·rintro ⟨h,h1⟩
  exact ⟨[.string ⟨p.1.toArray⟩],[p.2],h,rfl,rfl,h1⟩
theorem raw_x {e:TypeId} {B:Nat} {w:World} {v:Value} {ps:List RawP} (h:OwnX rawP e B (fun _=>False) w v ps):OwnC rawP e B w v ps:=by
 obtain ⟨raw,h1,h2⟩:=h
 exact ⟨raw,h1,h2.keep (Kep.refl _ _) fun _ _ h=>h.elim⟩
theorem raw_c {e:TypeId} {B:Nat} {w:World} {v:Value} {ps:List RawP} (h:OwnC rawP e B w v ps):OwnX rawP e B (fun _=>False) w v ps:=by
 obtain ⟨raw,h1,h2⟩:=h
 exact ⟨raw,h1,h2.1,fun i hi hi'=>raw_on.2 (raw_on.1 (h2.2 i hi hi'))⟩
def Free (v:Value) (us:List Value) (b:Nat):Prop:=v.ownBlock≠some b∧∀ u∈us,u.ownBlock≠some b
variable {α : Type} {D : Codec α} {e1 e2 : TypeId} {B : Nat}
structure RowsAt (D:Codec α) (e1 e2:TypeId) (B:Nat) (w:World) (v:Value) (us:List Value) (rows:List (List UInt8×List α)):Prop where
 len:us.length=rows.length
 outer:OwnX rawP e1 B (fun _=>False) w v (List.zip (rows.map (·.1)) us)
 inner:∀ i (h:i<us.length) (h':i<rows.length),OwnX D e2 B (Free v us) w us[i] rows[i].2
 apart:∀ i j (h:i<us.length) (h':j<us.length) g,us[i].ownBlock=some g→us[j].ownBlock=some g→i=j
variable {w : World} {v : Value} {us : List Value} {rows : List (List UInt8 × List α)}
theorem RowsAt.kep {w':World} (h:RowsAt D e1 e2 B w v us rows) (hk:Kep (fun _=>True) w w'):RowsAt D e1 e2 B w' v us rows :=
 ⟨h.len,h.outer.keep hk (fun _ _ _=>trivial) (fun _ _=>trivial),fun i hi hi'=>(h.inner i hi hi').keep hk (fun _ _ _=>trivial) (fun _ _=>trivial),h.apart⟩
theorem RowsAt.below {w':World} (h:RowsAt D e1 e2 B w v us rows) (hb:Below w.heap.size w w'):RowsAt D e1 e2 B w' v us rows:=h.kep (kep_below _ hb)
theorem RowsAt.zlen (h:RowsAt D e1 e2 B w v us rows):(List.zip (rows.map (·.1)) us).length=rows.length:=by rw [List.length_zip,List.length_map,h.len,Nat.min_self]
theorem RowsAt.shape (h:RowsAt D e1 e2 B w v us rows):∃ p cap,v=.slice p rows.length cap∧rows.length≤cap∧cap≤maxLen∧(p=none→cap=0):=by
 have:=h.outer.any.shape
 rw [h.zlen] at this
 exact this
theorem RowsAt.one (h:RowsAt D e1 e2 B w v us rows) {i:Nat} (hi:i<us.length):us[i].oneCell'=true:=(h.inner i hi (by rw [← h.len];exact hi)).any.oneCell
theorem RowsAt.olt (h:RowsAt D e1 e2 B w v us rows) {g:Nat} (hg:v.ownBlock=some g):B≤g∧g<w.heap.size:=⟨(h.outer.cells hg).1,(h.outer.cells hg).2.1⟩
theorem RowsAt.ilt (h:RowsAt D e1 e2 B w v us rows) {i:Nat} (hi:i<us.length) {g:Nat} (hg:us[i].ownBlock=some g):B≤g∧g<w.heap.size :=
 have:=(h.inner i hi (by rw [← h.len];exact hi)).cells hg;⟨this.1,this.2.1⟩
theorem RowsAt.out (h:RowsAt D e1 e2 B w v us rows) (he:e1≠e2) {i:Nat} (hi:i<us.length) {g:Nat} (hg:us[i].ownBlock=some g):v.ownBlock≠some g:=fun hv=>by
 obtain ⟨_,_,c1,f1,h1⟩:=h.outer.cells hv
 obtain ⟨_,_,c2,f2,h2⟩:=(h.inner i hi (by rw [← h.len];exact hi)).cells hg
 rw [h1] at h2
 simp only [Option.some.injEq,Obj.cells.injEq] at h2
 exact he h2.2.1
theorem RowsAt.at_ (h:RowsAt D e1 e2 B w v us rows) {k:Nat} (hk:k<us.length) (hk':k<rows.length):∃ g cap,v=.slice (some ⟨g,0,none⟩) rows.length cap∧g<w.heap.size∧B≤g ∧
  w.cell? ⟨g,k*2,none⟩=some (.string ⟨rows[k].1.toArray⟩)∧w.cell? ⟨g,k*2+1,none⟩=some us[k]∧(∀ j,w.frozen? ⟨g,j,none⟩=false):=by
 have hz:=h.zlen
 have hkz:k<(List.zip (rows.map (·.1)) us).length:=by rw [hz];exact hk'
 have hC:=raw_x h.outer
 obtain ⟨p,cap,hv,hle,_,hp⟩:=h.shape
 have ho:=h.outer
 obtain ⟨raw,ho1,_⟩:=ho
 rcases ho1.2 with ⟨_,h0⟩ | ⟨g,cap',cur,hv',hg,hh,_⟩
 ·rw [hz] at h0;omega
 ·rw [hz] at hv'
  rw [hv'] at hC
  obtain ⟨vs,hvs,hc,hf,_⟩:=hC.elem hkz
  have hv2:=(raw_on.1 hvs).1
  simp only [List.getElem_zip,List.getElem_map] at hv2
  refine ⟨g,cap',hv',(Array.getElem?_eq_some_iff.1 hh).1,hg,?_,?_,hf⟩
  ·have:=hc 0 _ (by rw [hv2];rfl)
   exact this
  ·exact hc 1 _ (by rw [hv2];rfl)
theorem zip_set {β γ:Type}:∀ (xs:List β) (ys:List γ) (k:Nat) (u:γ) (h1:k<xs.length) (h2:xs.length=ys.length),List.zip xs (ys.set k u)=(List.zip xs ys).set k (xs[k],u)
 | x::xs,y::ys,0,u,_,_=>rfl
 | x::xs,y::ys,k+1,u,h1,h2=>by
   rw [List.set_cons_succ,List.zip_cons_cons,List.zip_cons_cons,List.set_cons_succ,zip_set xs ys k u (by simpa using h1) (by simpa using h2)]
   rfl
theorem RowsAt.hit {w':World} (he:e1≠e2) (h:RowsAt D e1 e2 B w v us rows) {k:Nat} (hk:k<us.length) (hk':k<rows.length) {u':Value} {es:List α} (hu:OwnX D e2 B (fun b=>b<w.heap.size∧Free v us b) w' u' es)
  (hkp:Kep (fun b=>us[k].ownBlock≠some b) w w') (hat:∀ g,u'.ownBlock=some g→us[k].ownBlock=some g∨w.heap.size≤g) {g n cap:Nat} (hv:v=.slice (some ⟨g,0,none⟩) n cap) :
  RowsAt D e1 e2 B (w'.setCell ⟨g,k*2+1,none⟩ u') v (us.set k u') (rows.set k (rows[k].1,es)):=by
 have hvb:v.ownBlock=some g:=by rw [hv];rfl
 have hub:u'.ownBlock≠some g:=fun e=>by
  rcases hat g e with h1 | h1
  ·exact h.out he hk h1 hvb
  ·have:=(h.olt hvb).2;omega
 have hset:Kep (fun b=>b≠g) w' (w'.setCell ⟨g,k*2+1,none⟩ u'):=kep_set (fun h=>h rfl) u'
 have hone:=hu.any.oneCell
 have hfree:∀ b,(b<w.heap.size∧Free v us b)→Free v (us.set k u') b:=fun b ⟨hb,hf⟩=>⟨hf.1,fun u hm e=>by
  rcases List.mem_or_eq_of_mem_set hm with hm | rfl
  ·exact hf.2 u hm e
  ·rcases hat b e with h1 | h1
   ·exact hf.2 _ (List.getElem_mem hk) h1
   ·omega⟩
 have hfin:∀ {u:Value} {xs:List α},OwnX D e2 B (fun b=>b<w.heap.size∧Free v us b) w' u xs→u.ownBlock≠some g→OwnX D e2 B (Free v (us.set k u')) (w'.setCell ⟨g,k*2+1,none⟩ u') u xs:=fun h1 hne =>
  OwnX.weak (h1.keep hset (fun b _ hb e=>hb.2.1 (by rw [e];exact hvb)) (fun b hb e=>hne (by rw [← e];exact hb))) fun b _ hb=>hfree b hb
 have houter:OwnX rawP e1 B (fun _=>False) w' v (List.zip (rows.map (·.1)) us):=h.outer.keep hkp (fun _ _ h=>h.elim) fun g' hg'=>fun e=>h.out he hk e hg'
 refine ⟨by rw [List.length_set,List.length_set];exact h.len,?_,fun i hi hi' => ?_,fun i j hi hj b hib hjb => ?_⟩
 ·have hz:k<(List.zip (rows.map (·.1)) us).length:=by rw [h.zlen];exact hk'
  have hC:=raw_x houter
  rw [hv] at hC
  obtain ⟨vs,hvs,_,_,hst⟩:=hC.elem hz
  have hv2:=(raw_on.1 hvs).1
  have hnew:=hst 1 u' (rows[k].1,u') (by show 1<2;omega) (raw_on.2 ⟨by rw [hv2];simp,hone⟩)
  have e1':List.zip ((rows.set k (rows[k].1,es)).map (·.1)) (us.set k u')=(List.zip (rows.map (·.1)) us).set k (rows[k].1,u'):=by
   rw [List.map_set]
   have:(rows.map (·.1)).set k rows[k].1=rows.map (·.1):=by
    apply List.ext_getElem (by simp)
    intro i hi hi'
    rw [List.getElem_set]
    split
    ·rename_i hik;subst hik;simp
    ·rfl
   rw [this,zip_set _ _ _ _ (by simpa using hk') (by rw [List.length_map,h.len])]
   simp
  rw [e1',hv]
  exact raw_c hnew
 ·rw [List.length_set] at hi hi'
  by_cases hik:k=i
  ·subst hik
   simp only [List.getElem_set_self]
   exact hfin hu hub
  ·rw [List.getElem_set_ne hik,List.getElem_set_ne hik]
   exact hfin ((OwnX.weak (h.inner i hi hi') fun b hb hf=>⟨hb,hf⟩).keep hkp (fun b _ hf=>hf.2.2 _ (List.getElem_mem hk)) (fun b hb e=>hik (h.apart k i hk hi b e hb))) (fun e=>h.out he hi e hvb)
 ·rw [List.length_set] at hi hj
  by_cases hki:k=i
  ·by_cases hkj:k=j
   ·omega
   ·subst hki
    rw [List.getElem_set_self] at hib
    rw [List.getElem_set_ne hkj] at hjb
    rcases hat b hib with h1 | h1
    ·exact h.apart k j hk hj b h1 hjb
    ·have:=(h.ilt hj hjb).2;omega
  ·rw [List.getElem_set_ne hki] at hib
   by_cases hkj:k=j
   ·subst hkj
    rw [List.getElem_set_self] at hjb
    rcases hat b hjb with h1 | h1
    ·exact h.apart i k hi hk b hib h1
    ·have:=(h.ilt hi hib).2;omega
   ·rw [List.getElem_set_ne hkj] at hjb
    exact h.apart i j hi hj b hib hjb
theorem RowsAt.any (h:RowsAt D e1 e2 B w v us rows):RAny (cPair cStr (cRow D)) w v rows:=by
 obtain ⟨p,cap,raw,hv,h1,h2,h3,hm,hc⟩:=h.outer.any
 rw [h.zlen] at hv h1
 refine ⟨p,cap,raw,hv,h1,h2,h3,⟨by rw [hm.1,h.zlen],fun i hi hi' => ?_⟩,?_⟩
 ·have hz:i<(List.zip (rows.map (·.1)) us).length:=by rw [← hm.1];exact hi
  have hiu:i<us.length:=by rw [h.len];exact hi'
  have:=raw_on.1 (hm.2 i hi hz)
  simp only [List.getElem_zip,List.getElem_map] at this
  exact ⟨[.string ⟨rows[i].1.toArray⟩],[us[i]],this.1,rfl,us[i],rfl,(h.inner i hiu hi').any⟩
 ·rcases hc with hc | hc
  ·left
   have:=h.zlen
   rw [hc] at this
   exact List.eq_nil_of_length_eq_zero this.symm
  ·exact .inr hc
end Go.Proofs.Ytdfbkhpkffpckaa.MM
