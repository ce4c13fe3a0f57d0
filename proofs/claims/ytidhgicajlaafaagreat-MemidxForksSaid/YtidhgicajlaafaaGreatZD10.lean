import Derived.Test.YtidhgicajlaafaaGreatZD3
import Derived.Test.YtidhgicajlaafaaGreatZD9
set_option maxRecDepth 100000
set_option maxHeartbeats 8000000
set_option linter.unusedVariables false
set_option linter.unusedSimpArgs false
namespace Go.Proofs.YtidhgicajlaafaaGreat.MM
open Go Go.RowKit
def cVal:Codec Value where
 size:=1
 on:=fun _ _ vs u=>vs=[u]∧u.oneCell'=true
 pos:=by decide
 len:=fun h=>by rw [h.1];rfl
 keep:=fun h _ _=>h
 one:=fun h u hu=>by rw [h.1] at hu;simp at hu;rw [hu];exact h.2
abbrev RawP:=List UInt8×Value
def rawP:Codec RawP:=cPair cStr cVal
theorem raw_on {S:Nat→Prop} {w:World} {vs:List Value} {p:RawP}:rawP.on S w vs p↔vs=[.string ⟨p.1.toArray⟩,p.2]∧p.2.oneCell'=true:=by
 constructor
 ·rintro ⟨x,y,h,h1,h2,h3⟩
  have h1:x=[.string ⟨p.1.toArray⟩]:=h1
  exact ⟨by rw [h,h1,h2];rfl,h3⟩
 ·rintro ⟨h,h1⟩
  exact ⟨[.string ⟨p.1.toArray⟩],[p.2],h,rfl,rfl,h1⟩
theorem raw_x {e:TypeId} {B:Nat} {w:World} {v:Value} {ps:List RawP} (h:OwnX rawP e B (fun _=>False) w v ps):OwnC rawP e B w v ps:=by
 obtain ⟨raw,h1,h2⟩:=h
 exact ⟨raw,h1,h2.keep (Kep.refl _ _) fun _ _ h=>h.elim⟩
theorem raw_c {e:TypeId} {B:Nat} {w:World} {v:Value} {ps:List RawP} (h:OwnC rawP e B w v ps):OwnX rawP e B (fun _=>False) w v ps:=by
 obtain ⟨raw,h1,h2⟩:=h
 exact ⟨raw,h1,h2.1,fun i hi hi'=>raw_on.2 (raw_on.1 (h2.2 i hi hi'))⟩
def Free (v:Value) (us:List Value) (b:Nat):Prop:=v.ownBlock≠some b∧∀ u∈us,u.ownBlock≠some b
variable {α : Type} {D : Codec α} {e1 e2 : TypeId} {B : Nat}
structure RowsAt (D:Codec α) (e1 e2:TypeId) (B:Nat) (w:World) (v:Value) (us:List Value) (rows:List (List UInt8×List α)):Prop where
 len:us.length=rows.length
 outer:OwnX rawP e1 B (fun _=>False) w v (List.zip (rows.map (·.1)) us)
 inner:∀ i (h:i<us.length) (h':i<rows.length),OwnX D e2 B (Free v us) w us[i] rows[i].2
 apart:∀ i j (h:i<us.length) (h':j<us.length) g,us[i].ownBlock=some g→us[j].ownBlock=some g→i=j
variable {w : World} {v : Value} {us : List Value} {rows : List (List UInt8 × List α)}
theorem RowsAt.kep {w':World} (h:RowsAt D e1 e2 B w v us rows) (hk:Kep (fun _=>True) w w'):RowsAt D e1 e2 B w' v us rows :=
 ⟨h.len,h.outer.keep hk (fun _ _ _=>trivial) (fun _ _=>trivial),fun i hi hi'=>(h.inner i hi hi').keep hk (fun _ _ _=>trivial) (fun _ _=>trivial),h.apart⟩
theorem RowsAt.below {w':World} (h:RowsAt D e1 e2 B w v us rows) (hb:Below w.heap.size w w'):RowsAt D e1 e2 B w' v us rows:=h.kep (kep_below _ hb)
theorem RowsAt.zlen (h:RowsAt D e1 e2 B w v us rows):(List.zip (rows.map (·.1)) us).length=rows.length:=by rw [List.length_zip,List.length_map,h.len,Nat.min_self]
theorem RowsAt.shape (h:RowsAt D e1 e2 B w v us rows):∃ p cap,v=.slice p rows.length cap∧rows.length≤cap∧cap≤maxLen∧(p=none→cap=0):=by
 have:=h.outer.any.shape
 rw [h.zlen] at this
 exact this
theorem RowsAt.one (h:RowsAt D e1 e2 B w v us rows) {i:Nat} (hi:i<us.length):us[i].oneCell'=true:=(h.inner i hi (by rw [← h.len];exact hi)).any.oneCell
theorem RowsAt.olt (h:RowsAt D e1 e2 B w v us rows) {g:Nat} (hg:v.ownBlock=some g):B≤g∧g<w.heap.size:=⟨(h.outer.cells hg).1,(h.outer.cells hg).2.1⟩
theorem RowsAt.ilt (h:RowsAt D e1 e2 B w v us rows) {i:Nat} (hi:i<us.length) {g:Nat} (hg:us[i].ownBlock=some g):B≤g∧g<w.heap.size :=
 have:=(h.inner i hi (by rw [← h.len];exact hi)).cells hg;⟨this.1,this.2.1⟩
theorem RowsAt.out (h:RowsAt D e1 e2 B w v us rows) (he:e1≠e2) {i:Nat} (hi:i<us.length) {g:Nat} (hg:us[i].ownBlock=some g):v.ownBlock≠some g:=fun hv=>by
 obtain ⟨_,_,c1,f1,h1⟩:=h.outer.cells hv
 obtain ⟨_,_,c2,f2,h2⟩:=(h.inner i hi (by rw [← h.len];exact hi)).cells hg
 rw [h1] at h2
 simp only [Option.some.injEq,Obj.cells.injEq] at h2
 exact he h2.2.1
theorem RowsAt.at_ (h:RowsAt D e1 e2 B w v us rows) {k:Nat} (hk:k<us.length) (hk':k<rows.length):∃ g cap,v=.slice (some ⟨g,0,none⟩) rows.length cap∧g<w.heap.size∧B≤g ∧
  w.cell? ⟨g,k*2,none⟩=some (.string ⟨rows[k].1.toArray⟩)∧w.cell? ⟨g,k*2+1,none⟩=some us[k]∧(∀ j,w.frozen? ⟨g,j,none⟩=false):=by
 have hz:=h.zlen
 have hkz:k<(List.zip (rows.map (·.1)) us).length:=by rw [hz];exact hk'
 have hC:=raw_x h.outer
 obtain ⟨p,cap,hv,hle,_,hp⟩:=h.shape
 have ho:=h.outer
 obtain ⟨raw,ho1,_⟩:=ho
 rcases ho1.2 with ⟨_,h0⟩ | ⟨g,cap',cur,hv',hg,hh,_⟩
 ·rw [hz] at h0;omega
 ·rw [hz] at hv'
  rw [hv'] at hC
  obtain ⟨vs,hvs,hc,hf,_⟩:=hC.elem hkz
  have hv2:=(raw_on.1 hvs).1
  simp only [List.getElem_zip,List.getElem_map] at hv2
  refine ⟨g,cap',hv',(Array.getElem?_eq_some_iff.1 hh).1,hg,?_,?_,hf⟩
  ·have:=hc 0 _ (by rw [hv2];rfl)
   exact this
  ·exact hc 1 _ (by rw [hv2];rfl)
theorem zip_set {β γ:Type}:∀ (xs:List β) (ys:List γ) (k:Nat) (u:γ) (h1:k<xs.length) (h2:xs.length=ys.length),List.zip xs (ys.set k u)=(List.zip xs ys).set k (xs[k],u)
 | x::xs,y::ys,0,u,_,_=>rfl
 | x::xs,y::ys,k+1,u,h1,h2=>by
   rw [List.set_cons_succ,List.zip_cons_cons,List.zip_cons_cons,List.set_cons_succ,zip_set xs ys k u (by simpa using h1) (by simpa using h2)]
   rfl
theorem RowsAt.hit {w':World} (he:e1≠e2) (h:RowsAt D e1 e2 B w v us rows) {k:Nat} (hk:k<us.length) (hk':k<rows.length) {u':Value} {es:List α} (hu:OwnX D e2 B (fun b=>b<w.heap.size∧Free v us b) w' u' es)
  (hkp:Kep (fun b=>us[k].ownBlock≠some b) w w') (hat:∀ g,u'.ownBlock=some g→us[k].ownBlock=some g∨w.heap.size≤g) {g n cap:Nat} (hv:v=.slice (some ⟨g,0,none⟩) n cap) :
  RowsAt D e1 e2 B (w'.setCell ⟨g,k*2+1,none⟩ u') v (us.set k u') (rows.set k (rows[k].1,es)):=by
 have hvb:v.ownBlock=some g:=by rw [hv];rfl
 have hub:u'.ownBlock≠some g:=fun e=>by
  rcases hat g e with h1 | h1
  ·exact h.out he hk h1 hvb
  ·have:=(h.olt hvb).2;omega
 have hset:Kep (fun b=>b≠g) w' (w'.setCell ⟨g,k*2+1,none⟩ u'):=kep_set (fun h=>h rfl) u'
 have hone:=hu.any.oneCell
 have hfree:∀ b,(b<w.heap.size∧Free v us b)→Free v (us.set k u') b:=fun b ⟨hb,hf⟩=>⟨hf.1,fun u hm e=>by
  rcases List.mem_or_eq_of_mem_set hm with hm | rfl
  ·exact hf.2 u hm e
  ·rcases hat b e with h1 | h1
   ·exact hf.2 _ (List.getElem_mem hk) h1
   ·omega⟩
 have hfin:∀ {u:Value} {xs:List α},OwnX D e2 B (fun b=>b<w.heap.size∧Free v us b) w' u xs→u.ownBlock≠some g→OwnX D e2 B (Free v (us.set k u')) (w'.setCell ⟨g,k*2+1,none⟩ u') u xs:=fun h1 hne =>
  OwnX.weak (h1.keep hset (fun b _ hb e=>hb.2.1 (by rw [e];exact hvb)) (fun b hb e=>hne (by rw [← e];exact hb))) fun b _ hb=>hfree b hb
 have houter:OwnX rawP e1 B (fun _=>False) w' v (List.zip (rows.map (·.1)) us):=h.outer.keep hkp (fun _ _ h=>h.elim) fun g' hg'=>fun e=>h.out he hk e hg'
 refine ⟨by rw [List.length_set,List.length_set];exact h.len,?_,fun i hi hi' => ?_,fun i j hi hj b hib hjb => ?_⟩
 ·have hz:k<(List.zip (rows.map (·.1)) us).length:=by rw [h.zlen];exact hk'
  have hC:=raw_x houter
  rw [hv] at hC
  obtain ⟨vs,hvs,_,_,hst⟩:=hC.elem hz
  have hv2:=(raw_on.1 hvs).1
  have hnew:=hst 1 u' (rows[k].1,u') (by show 1<2;omega) (raw_on.2 ⟨by rw [hv2];simp,hone⟩)
  have e1':List.zip ((rows.set k (rows[k].1,es)).map (·.1)) (us.set k u')=(List.zip (rows.map (·.1)) us).set k (rows[k].1,u'):=by
   rw [List.map_set]
   have:(rows.map (·.1)).set k rows[k].1=rows.map (·.1):=by
    apply List.ext_getElem (by simp)
    intro i hi hi'
    rw [List.getElem_set]
    split
    ·rename_i hik;subst hik;simp
    ·rfl
   rw [this,zip_set _ _ _ _ (by simpa using hk') (by rw [List.length_map,h.len])]
   simp
  rw [e1',hv]
  exact raw_c hnew
 ·rw [List.length_set] at hi hi'
  by_cases hik:k=i
  ·subst hik
   simp only [List.getElem_set_self]
   exact hfin hu hub
  ·rw [List.getElem_set_ne hik,List.getElem_set_ne hik]
   exact hfin ((OwnX.weak (h.inner i hi hi') fun b hb hf=>⟨hb,hf⟩).keep hkp (fun b _ hf=>hf.2.2 _ (List.getElem_mem hk)) (fun b hb e=>hik (h.apart k i hk hi b e hb))) (fun e=>h.out he hi e hvb)
 ·rw [List.length_set] at hi hj
  by_cases hki:k=i
  ·by_cases hkj:k=j
   ·omega
   ·subst hki
    rw [List.getElem_set_self] at hib
    rw [List.getElem_set_ne hkj] at hjb
    rcases hat b hib with h1 | h1
    ·exact h.apart k j hk hj b h1 hjb
    ·have:=(h.ilt hj hjb).2;omega
  ·rw [List.getElem_set_ne hki] at hib
   by_cases hkj:k=j
   ·subst hkj
    rw [List.getElem_set_self] at hjb
    rcases hat b hjb with h1 | h1
    ·exact h.apart i k hi hk b hib h1
    ·have:=(h.ilt hi hib).2;omega
   ·rw [List.getElem_set_ne hkj] at hjb
    exact h.apart i j hi hj b hib hjb
theorem RowsAt.any (h:RowsAt D e1 e2 B w v us rows):RAny (cPair cStr (cRow D)) w v rows:=by
 obtain ⟨p,cap,raw,hv,h1,h2,h3,hm,hc⟩:=h.outer.any
 rw [h.zlen] at hv h1
 refine ⟨p,cap,raw,hv,h1,h2,h3,⟨by rw [hm.1,h.zlen],fun i hi hi' => ?_⟩,?_⟩
 ·have hz:i<(List.zip (rows.map (·.1)) us).length:=by rw [← hm.1];exact hi
  have hiu:i<us.length:=by rw [h.len];exact hi'
  have:=raw_on.1 (hm.2 i hi hz)
  simp only [List.getElem_zip,List.getElem_map] at this
  exact ⟨[.string ⟨rows[i].1.toArray⟩],[us[i]],this.1,rfl,us[i],rfl,(h.inner i hiu hi').any⟩
 ·rcases hc with hc | hc
  ·left
   have:=h.zlen
   rw [hc] at this
   exact List.eq_nil_of_length_eq_zero this.symm
  ·exact .inr hc
end Go.Proofs.YtidhgicajlaafaaGreat.MM
namespace Go.Proofs.YtidhgicajlaafaaGreat.MX
open Go MM
open EM (Ev Trm termsE Rising posOf placesT)
open PM (Post)
open RM (rowsE rowsE_rising rowsE_posts postsT postsT_mem posOf_mem posOf_some termsE_rising termsE_ne)
abbrev RowP:=List UInt8×List Post
def posAt (r:RowP) (d:Int):List Int:=(r.2.filter fun p=>decide (p.1=d)).flatMap (·.2)
def totM (rs:List RowP) (s:List UInt8) (d:Int):List Int:=(rs.filter fun r=>selM s false r.1).flatMap fun r=>posAt r d
theorem posAt_mem {r:RowP} {d z:Int}:z∈posAt r d↔∃ p∈r.2,p.1=d∧z∈p.2:=by
 unfold posAt
 rw [List.mem_flatMap]
 constructor
 ·rintro ⟨p,hp,hz⟩
  obtain ⟨h1,h2⟩:=List.mem_filter.1 hp
  exact ⟨p,h1,of_decide_eq_true h2,hz⟩
 ·rintro ⟨p,h1,h2,hz⟩
  exact ⟨p,List.mem_filter.2 ⟨h1,decide_eq_true h2⟩,hz⟩
theorem totM_perm {rs R:List RowP} (h:rs.Perm R) (s:List UInt8) (d:Int):(totM rs s d).Perm (totM R s d):=(h.filter _).flatMap_right _
theorem totM_mem {rs:List RowP} {s:List UInt8} {d z:Int}:z∈totM rs s d↔∃ r∈rs,selM s false r.1=true∧z∈posAt r d:=by
 unfold totM
 rw [List.mem_flatMap]
 constructor
 ·rintro ⟨r,hr,hz⟩
  obtain ⟨h1,h2⟩:=List.mem_filter.1 hr
  exact ⟨r,h1,h2,hz⟩
 ·rintro ⟨r,h1,h2,hz⟩
  exact ⟨r,List.mem_filter.2 ⟨h1,h2⟩,hz⟩
theorem row_posts {es:List Ev} {r:RowP} (hr:r∈rowsE es):r.2=postsT 0 (es.map termsE) r.1:=by
 rw [← posOf_mem (rowsE_rising es) hr,rowsE_posts]
theorem row_at_doc {es:List Ev} {r:RowP} (hr:r∈rowsE es) {k:Nat} (hk:k<es.length) {z:Int}:z∈posAt r (k:Int)↔z∈posOf (termsE es[k]) r.1:=by
 rw [posAt_mem,row_posts hr]
 constructor
 ·rintro ⟨p,hp,hd,hz⟩
  obtain ⟨j,hj,rfl,_⟩:=postsT_mem.1 hp
  have e:j=k:=by
   have hd':(0:Int)+(j:Int)=(k:Int):=hd
   omega
  subst e
  rw [List.getElem_map] at hz
  exact hz
 ·intro hz
  refine ⟨((0:Int)+(k:Int),posOf (termsE es[k]) r.1),postsT_mem.2 ⟨k,by rw [List.length_map];exact hk,by rw [List.getElem_map],fun e => ?_⟩,by simp,hz⟩
  rw [List.getElem_map] at e
  rw [e] at hz
  cases hz
theorem row_of_term {es:List Ev} {k:Nat} (hk:k<es.length) {t:Trm} (ht:t∈termsE es[k]):∃ r∈rowsE es,r.1=t.1:=by
 have h1:=posOf_mem (termsE_rising es[k]) ht
 have hne:posOf (rowsE es) t.1≠[]:=by
  rw [rowsE_posts]
  intro hn
  have:=(postsT_mem (tss:=es.map termsE) (b:=0) (x:=t.1) (p:=((0:Int)+(k:Int),posOf (termsE es[k]) t.1))).2 ⟨k,by rw [List.length_map];exact hk,by rw [List.getElem_map],by rw [List.getElem_map,h1];exact termsE_ne _ t ht⟩
  rw [hn] at this
  cases this
 exact ⟨_,posOf_some hne,rfl⟩
theorem tot_rows {es:List Ev} {k:Nat} (hk:k<es.length) {s:List UInt8} {z:Int}:z∈totM (rowsE es) s (k:Int)↔∃ t∈termsE es[k],selM s false t.1=true∧z∈t.2:=by
 rw [totM_mem]
 constructor
 ·rintro ⟨r,hr,hs,hz⟩
  rw [row_at_doc hr hk] at hz
  have hne:posOf (termsE es[k]) r.1≠[]:=fun e=>by rw [e] at hz;cases hz
  exact ⟨_,posOf_some hne,hs,hz⟩
 ·rintro ⟨t,ht,hs,hz⟩
  obtain ⟨r,hr,e⟩:=row_of_term hk ht
  refine ⟨r,hr,by rw [e];exact hs,?_⟩
  rw [row_at_doc hr hk,e,posOf_mem (termsE_rising es[k]) ht]
  exact hz
theorem two_terms {T:List Trm} (h:(placesT T).Nodup):T.Pairwise fun a b=>∀ z∈a.2,z∉b.2:=by
 induction T with
 | nil=>exact List.Pairwise.nil
 | cons t T ih =>
   have e:placesT (t::T)=t.2++placesT T:=by simp [placesT]
   rw [e,List.nodup_append] at h
   refine List.Pairwise.cons (fun u hu z hz hz2=>h.2.2 z hz z ?_ rfl) (ih h.2.1)
   unfold placesT
   exact List.mem_flatMap.2 ⟨u,hu,hz2⟩
theorem terms_apart {T:List Trm} (h:(placesT T).Nodup) {a b:Trm} (ha:a∈T) (hb:b∈T) {z:Int} (h1:z∈a.2) (h2:z∈b.2):a=b:=by
 obtain ⟨i,hi,rfl⟩:=List.getElem_of_mem ha
 obtain ⟨j,hj,rfl⟩:=List.getElem_of_mem hb
 have hp:=List.pairwise_iff_getElem.1 (two_terms h)
 rcases Nat.lt_trichotomy i j with hij | hij | hij
 ·exact absurd h2 (hp i j hi hj hij z h1)
 ·subst hij;rfl
 ·exact absurd h1 (hp j i hj hi hij z h2)
theorem sort_nodup {l:List Int} (h:l.Pairwise (·<·)):l.Nodup:=h.imp fun {a b} h e=>by omega
theorem filter_one {l:List Post} {k:Int} (h:l.Pairwise fun a b=>a.1<b.1):(l.filter fun p=>decide (p.1=k)).length≤1:=by
 induction l with
 | nil=>simp
 | cons p l ih =>
   rw [List.pairwise_cons] at h
   by_cases e:p.1=k
   ·have:(l.filter fun p=>decide (p.1=k))=[]:=List.filter_eq_nil_iff.2 fun q hq hd=>by
     have h1:=h.1 q hq
     have h2:=of_decide_eq_true hd
     omega
    rw [List.filter_cons_of_pos (by simp [e]),this]
    simp
   ·rw [List.filter_cons_of_neg (by simp [e])]
    exact ih h.2
theorem postsT_ge:∀ {tss:List (List Trm)} {b:Int} {x:List UInt8} {p:Post},p∈postsT b tss x→b≤p.1:=fun h=>by
 obtain ⟨k,_,rfl,_⟩:=postsT_mem.1 h
 show _≤_+(k:Int)
 omega
theorem postsT_rise:∀ (tss:List (List Trm)) (b:Int) (x:List UInt8),(postsT b tss x).Pairwise fun p q=>p.1<q.1
 | [],b,x=>by unfold postsT;exact List.Pairwise.nil
 | ts::r,b,x=>by
   rw [postsT]
   refine List.pairwise_append.2 ⟨by split<;>simp,postsT_rise r (b+1) x,fun p hp q hq => ?_⟩
   have h1:=postsT_ge hq
   split at hp
   ·cases hp
   ·obtain rfl:=List.mem_singleton.1 hp
    show b<q.1
    omega
theorem posAt_is {es:List Ev} {r:RowP} (hr:r∈rowsE es) {k:Nat} (hk:k<es.length):posAt r (k:Int)=posOf (termsE es[k]) r.1:=by
 have h1:(r.2.filter fun p=>decide (p.1=(k:Int))).length≤1:=by rw [row_posts hr];exact filter_one (postsT_rise _ _ _)
 have hm:=fun z=>row_at_doc (z:=z) hr hk
 unfold posAt at hm ⊢
 cases hf:r.2.filter (fun p=>decide (p.1=(k:Int))) with
 | nil =>
   rw [hf] at hm
   symm
   exact List.eq_nil_iff_forall_not_mem.2 fun z hz=>by have:=(hm z).2 hz;simp at this
 | cons p l =>
   rw [hf] at h1
   have hl:l=[]:=List.eq_nil_of_length_eq_zero (by simpa using h1)
   subst hl
   have hp:p∈r.2.filter (fun p=>decide (p.1=(k:Int))):=by rw [hf];simp
   obtain ⟨h2,h3⟩:=List.mem_filter.1 hp
   rw [row_posts hr] at h2
   obtain ⟨j,hj,rfl,_⟩:=postsT_mem.1 h2
   have e:j=k:=by
    have:=of_decide_eq_true h3
    have hd':(0:Int)+(j:Int)=(k:Int):=this
    omega
   subst e
   simp
theorem tot_nodup (es:List Ev) (s:List UInt8) {k:Nat} (hk:k<es.length):(totM (rowsE es) s (k:Int)).Nodup:=by
 unfold totM
 unfold List.Nodup
 refine List.pairwise_flatMap.2 ⟨fun r hr => ?_,?_⟩
 ·rw [posAt_is (List.mem_filter.1 hr).1 hk]
  exact sort_nodup (posOf_sorted es[k] r.1)
 ·refine List.Pairwise.imp_of_mem (R:=fun a b:RowP=>EM.lessL a.1 b.1=true) (fun {a b} ha hb hab x hx y hy e => ?_) (List.Pairwise.filter _ (rowsE_rising es))
  subst e
  rw [posAt_is (List.mem_filter.1 ha).1 hk] at hx
  rw [posAt_is (List.mem_filter.1 hb).1 hk] at hy
  have h1:=posOf_some (l:=termsE es[k]) (x:=a.1) (fun e=>by rw [e] at hx;cases hx)
  have h2:=posOf_some (l:=termsE es[k]) (x:=b.1) (fun e=>by rw [e] at hy;cases hy)
  have h3:=congrArg Prod.fst (terms_apart (places_nodup es[k]) h1 h2 hx hy)
  have h4:a.1=b.1:=h3
  rw [h4,EM.lessL_irr] at hab
  cases hab
theorem beg_sorted {es:List Ev} {rs:List RowP} {s:List UInt8} {k:Nat} {l:List Int} (hk:k<es.length) (hrs:rs.Perm (rowsE es)) (hp:l.Perm (totM rs s (k:Int))) (hl:l.Pairwise (·≤·)):l=ofE es[k] s false:=by
 have h1:=hp.trans (totM_perm hrs s (k:Int))
 have hn:l.Nodup:=h1.nodup_iff.2 (tot_nodup es s hk)
 refine ofE_unique ((hl.and hn).imp fun {a b} h=>by have h2:a≠b:=h.2;have h3:a≤b:=h.1;omega) fun z => ?_
 rw [h1.mem_iff]
 exact tot_rows hk
theorem tot_none {es:List Ev} {rs:List RowP} {s:List UInt8} {d:Int} (hrs:rs.Perm (rowsE es)) (h:totM rs s d≠[]):∃ (k:Nat) (hk:k<es.length),d=(k:Int)∧ofE es[k] s false≠[]:=by
 obtain ⟨z,hz⟩:=List.exists_mem_of_ne_nil _ h
 obtain ⟨r,hr,hs,hz2⟩:=totM_mem.1 hz
 obtain ⟨p,hp,hd,_⟩:=posAt_mem.1 hz2
 rw [row_posts (hrs.mem_iff.1 hr)] at hp
 obtain ⟨k,hk,rfl,_⟩:=postsT_mem.1 hp
 rw [List.length_map] at hk
 have e:d=(k:Int):=by rw [← hd];exact Int.zero_add _
 subst e
 refine ⟨k,hk,rfl,fun e => ?_⟩
 have:=ofE_mem.2 ((tot_rows hk).1 ((totM_perm hrs s (k:Int)).mem_iff.1 hz))
 rw [e] at this
 cases this
theorem postsO_ge:∀ {l:List (List Int)} {b:Int} {p:Post},p∈postsO b l→b≤p.1:=fun h=>by
 obtain ⟨k,_,rfl,_⟩:=postsO_mem.1 h
 show _≤_+(k:Int)
 omega
theorem postsO_rise:∀ (l:List (List Int)) (b:Int),(postsO b l).Pairwise fun p q=>p.1<q.1
 | [],b=>by unfold postsO;exact List.Pairwise.nil
 | x::r,b=>by
   rw [postsO]
   refine List.pairwise_append.2 ⟨by split<;>simp,postsO_rise r (b+1),fun p hp q hq => ?_⟩
   have h1:=postsO_ge hq
   split at hp
   ·cases hp
   ·obtain rfl:=List.mem_singleton.1 hp
    show b<q.1
    omega
theorem beg_posts {es:List Ev} {s:List UInt8} {ks:List Int} {f:Int→List Int} (h:ks.Pairwise (·<·)) (hk:∀ d,d∈ks↔∃ (k:Nat) (hk:k<es.length),d=(k:Int)∧ofE es[k] s false≠[]) (hf:∀ (k:Nat) (hk:k<es.length),ofE es[k] s false≠[]→f (k:Int)=ofE es[k] s false) :
  ks.map (fun d=>(d,f d))=postsM es s false:=by
 have hmem:∀ p:Post,p∈postsM es s false↔∃ (k:Nat) (hk:k<es.length),p=((k:Int),ofE es[k] s false)∧ofE es[k] s false≠[]:=fun p=>by
  unfold postsM
  rw [postsO_mem]
  constructor
  ·rintro ⟨k,hk,rfl,hne⟩
   have hk':k<es.length:=by rw [List.length_map] at hk;exact hk
   rw [List.getElem_map] at hne
   exact ⟨k,hk',by rw [List.getElem_map,Int.zero_add],hne⟩
  ·rintro ⟨k,hk,rfl,hne⟩
   exact ⟨k,by rw [List.length_map];exact hk,by rw [List.getElem_map,Int.zero_add],by rw [List.getElem_map];exact hne⟩
 have e:ks=(postsM es s false).map (·.1):=by
  refine sorted_unique h ?_ fun d => ?_
  ·rw [List.pairwise_map]
   exact postsO_rise _ _
  ·rw [hk,List.mem_map]
   constructor
   ·rintro ⟨k,hk,rfl,hne⟩
    exact ⟨_,(hmem _).2 ⟨k,hk,rfl,hne⟩,rfl⟩
   ·rintro ⟨p,hp,rfl⟩
    obtain ⟨k,hk,rfl,hne⟩:=(hmem p).1 hp
    exact ⟨k,hk,rfl,hne⟩
 rw [e,List.map_map]
 have e2:(postsM es s false).map ((fun d=>(d,f d)) ∘ (·.1))=(postsM es s false).map id:=List.map_congr_left fun p hp=>by
  obtain ⟨k,hk,rfl,hne⟩:=(hmem p).1 hp
  show ((k:Int),f (k:Int))=_
  rw [hf k hk hne]
  rfl
 rw [e2,List.map_id]
theorem totM_next (rs:List RowP) (r:RowP) (s:List UInt8) (d:Int):totM (rs++[r]) s d=totM rs s d++if selM s false r.1 then posAt r d else []:=by
 unfold totM
 rw [List.filter_append,List.flatMap_append]
 by_cases h:selM s false r.1=true
 ·rw [if_pos h,List.filter_cons_of_pos (p:=fun r:RowP=>selM s false r.1) h]
  simp
 ·rw [if_neg h,List.filter_cons_of_neg (p:=fun r:RowP=>selM s false r.1) h]
  simp
theorem posAt_zero (x:List UInt8) (l:List Post) (d:Int):posAt (x,l.take 0) d=[]:=by simp [posAt]
theorem posAt_next (x:List UInt8) {l:List Post} {j:Nat} (hj:j<l.length) (d:Int):posAt (x,l.take (j+1)) d=posAt (x,l.take j) d++if d=l[j].1 then l[j].2 else []:=by
 unfold posAt
 rw [List.take_succ_eq_append_getElem hj]
 show ((l.take j++[l[j]]).filter fun p=>decide (p.1=d)).flatMap (·.2)=((l.take j).filter fun p=>decide (p.1=d)).flatMap (·.2)++_
 rw [List.filter_append,List.flatMap_append]
 by_cases h:l[j].1=d
 ·rw [if_pos h.symm,List.filter_cons_of_pos (by simp [h])]
  simp
 ·rw [if_neg (fun e=>h e.symm),List.filter_cons_of_neg (by simp [h])]
  simp
theorem posAt_all (x:List UInt8) (l:List Post) (d:Int):posAt (x,l.take l.length) d=posAt (x,l) d:=by rw [List.take_length]
end Go.Proofs.YtidhgicajlaafaaGreat.MX
