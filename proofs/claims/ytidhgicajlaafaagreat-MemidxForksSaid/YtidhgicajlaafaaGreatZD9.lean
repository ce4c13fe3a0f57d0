import Derived.Test.YtidhgicajlaafaaGreatZD8
set_option maxRecDepth 100000
set_option maxHeartbeats 8000000
set_option linter.unusedVariables false
set_option linter.unusedSimpArgs false
namespace Go.Proofs.YtidhgicajlaafaaGreat.MM
open Go
open EM (Ev Bat Tr Trm checkB checkE sizeE termsE termsF termsF_pos termsF_perm allF_nodup pairsF pairsF_rise Rising posOf posOf_none placesT lessL lessL_irr lessL_ne lessL_trans lessL_total checkE_ok foldP)
open PM (Post riseF riseL isL isL_ok okL okP)
open SM (Doc)
open RM (termsE_ok termsE_bad termsE_rising termsE_ne termsE_rise posOf_mem posOf_some riseF_of okL_mono postsT rowsE rowsE_rising rowsT_mem rowsE_posts postsT_mem pairsF_above baseF_le)
theorem sorted_unique:∀ {a b:List Int},a.Pairwise (·<·)→b.Pairwise (·<·)→(∀ x,x∈a↔x∈b)→a=b
 | [],[],_,_,_=>rfl
 | [],y::b,_,_,h=>absurd ((h y).2 (by simp)) (by simp)
 | x::a,[],_,_,h=>absurd ((h x).1 (by simp)) (by simp)
 | x::a,y::b,ha,hb,h=>by
   rw [List.pairwise_cons] at ha hb
   have e:x=y:=by
    have h1:=(h x).1 (by simp)
    have h2:=(h y).2 (by simp)
    rcases List.mem_cons.1 h1 with h1 | h1
    ·exact h1
    ·rcases List.mem_cons.1 h2 with h2 | h2
     ·exact h2.symm
     ·have:=hb.1 x h1
      have:=ha.1 y h2
      omega
   subst e
   rw [sorted_unique ha.2 hb.2 fun z => ?_]
   constructor
   ·intro hz
    rcases List.mem_cons.1 ((h z).1 (by simp [hz])) with e | h3
    ·have:=ha.1 z hz;omega
    ·exact h3
   ·intro hz
    rcases List.mem_cons.1 ((h z).2 (by simp [hz])) with e | h3
    ·have:=hb.1 z hz;omega
    ·exact h3
def mergeL:List Int→List Int→List Int
 | [],b=>b
 | x::a,[]=>x::a
 | x::a,y::b=>if x<y then x::mergeL a (y::b) else y::mergeL (x::a) b
termination_by a b=>a.length+b.length
theorem mergeL_nil (b:List Int):mergeL [] b=b:=by rw [mergeL]
theorem mergeL_end (a:List Int):mergeL a []=a:=by
 cases a with
 | nil=>rw [mergeL]
 | cons x a=>rw [mergeL]
theorem mergeL_perm:∀ a b:List Int,(mergeL a b).Perm (a++b)
 | [],b=>by rw [mergeL];exact List.Perm.refl _
 | x::a,[]=>by rw [mergeL,List.append_nil]
 | x::a,y::b=>by
   rw [mergeL]
   split
   ·exact List.Perm.cons x (mergeL_perm a (y::b))
   ·exact (List.Perm.cons y (mergeL_perm (x::a) b)).trans List.perm_middle.symm
termination_by a b=>a.length+b.length
theorem mergeL_mem {a b:List Int} {z:Int}:z∈mergeL a b↔z∈a∨z∈b:=by rw [(mergeL_perm a b).mem_iff,List.mem_append]
theorem mergeL_sorted:∀ {a b:List Int},a.Pairwise (·<·)→b.Pairwise (·<·)→(∀ x∈a,x∉b)→(mergeL a b).Pairwise (·<·)
 | [],b,_,hb,_=>by rw [mergeL];exact hb
 | x::a,[],ha,_,_=>by rw [mergeL];exact ha
 | x::a,y::b,ha,hb,h=>by
   have ha':=List.pairwise_cons.1 ha
   have hb':=List.pairwise_cons.1 hb
   rw [mergeL]
   split
   ·rename_i hlt
    rw [List.pairwise_cons]
    refine ⟨fun z hz => ?_,mergeL_sorted ha'.2 hb fun u hu=>h u (by simp [hu])⟩
    rcases mergeL_mem.1 hz with hz | hz
    ·exact ha'.1 z hz
    ·rcases List.mem_cons.1 hz with rfl | hz
     ·exact hlt
     ·have:=hb'.1 z hz;omega
   ·rename_i hlt
    have hne:x≠y:=fun e=>h x (by simp) (by rw [e];simp)
    rw [List.pairwise_cons]
    refine ⟨fun z hz => ?_,mergeL_sorted ha hb'.2 fun u hu hb2=>h u hu (by simp [hb2])⟩
    rcases mergeL_mem.1 hz with hz | hz
    ·rcases List.mem_cons.1 hz with rfl | hz
     ·omega
     ·have:=ha'.1 z hz;omega
    ·exact hb'.1 z hz
termination_by a b=>a.length+b.length
theorem mergeL_left {a b:List Int} {i k:Nat} (hi:i<a.length) (h:b.length≤k∨∃ hk:k<b.length,a[i]<b[k]):mergeL (a.drop i) (b.drop k)=a[i]::mergeL (a.drop (i+1)) (b.drop k):=by
 rw [List.drop_eq_getElem_cons hi]
 rcases h with h | ⟨hk,h⟩
 ·rw [List.drop_of_length_le h,mergeL,mergeL_end]
 ·rw [List.drop_eq_getElem_cons hk,mergeL,if_pos h]
theorem mergeL_right {a b:List Int} {i k:Nat} (hk:k<b.length) (h:a.length≤i∨∃ hi:i<a.length,¬ a[i]<b[k]):mergeL (a.drop i) (b.drop k)=b[k]::mergeL (a.drop i) (b.drop (k+1)):=by
 rw [List.drop_eq_getElem_cons hk]
 rcases h with h | ⟨hi,h⟩
 ·rw [List.drop_of_length_le h,mergeL_nil,mergeL_nil]
 ·rw [List.drop_eq_getElem_cons hi,mergeL,if_neg h]
def selM (s:List UInt8) (whole:Bool) (x:List UInt8):Bool:=if whole then decide (x=s) else decide (x.take s.length=s)
def ofT (ts:List Trm) (s:List UInt8) (whole:Bool):List Int:=ts.foldl (fun l t=>if selM s whole t.1 then mergeL l t.2 else l) []
def ofE (e:Ev) (s:List UInt8) (whole:Bool):List Int:=ofT (termsE e) s whole
theorem ofT_next {ts:List Trm} {k:Nat} (hk:k<ts.length) (s:List UInt8) (whole:Bool):ofT (ts.take (k+1)) s whole=if selM s whole ts[k].1 then mergeL (ofT (ts.take k) s whole) ts[k].2 else ofT (ts.take k) s whole:=by
 unfold ofT
 rw [List.take_succ_eq_append_getElem hk,List.foldl_append]
 rfl
def allT (ts:List Trm) (s:List UInt8) (whole:Bool):List Int:=(ts.filter fun t=>selM s whole t.1).flatMap (·.2)
theorem foldM_perm (s:List UInt8) (whole:Bool):∀ (ts:List Trm) (l:List Int),(ts.foldl (fun l t=>if selM s whole t.1 then mergeL l t.2 else l) l).Perm (l++allT ts s whole)
 | [],l=>by simp [allT]
 | t::ts,l=>by
   rw [List.foldl_cons]
   refine (foldM_perm s whole ts _).trans ?_
   unfold allT
   by_cases h:selM s whole t.1=true
   ·rw [if_pos h,List.filter_cons_of_pos (p:=fun t:Trm=>selM s whole t.1) h,List.flatMap_cons,← List.append_assoc]
    exact List.Perm.append_right _ (mergeL_perm l t.2)
   ·rw [if_neg h,List.filter_cons_of_neg (p:=fun t:Trm=>selM s whole t.1) h]
theorem ofT_perm (ts:List Trm) (s:List UInt8) (whole:Bool):(ofT ts s whole).Perm (allT ts s whole):=by
 have:=foldM_perm s whole ts []
 rw [List.nil_append] at this
 exact this
theorem foldM_sorted (s:List UInt8) (whole:Bool):∀ (ts:List Trm) (l:List Int),l.Pairwise (·<·)→(∀ t∈ts,t.2.Pairwise (·<·))→(l++placesT ts).Nodup→(ts.foldl (fun l t=>if selM s whole t.1 then mergeL l t.2 else l) l).Pairwise (·<·)
 | [],l,h,_,_=>h
 | t::ts,l,h,ht,hn=>by
   have e:placesT (t::ts)=t.2++placesT ts:=by simp [placesT]
   rw [e] at hn
   rw [List.foldl_cons]
   by_cases hs:selM s whole t.1=true
   ·rw [if_pos hs]
    refine foldM_sorted s whole ts _ (mergeL_sorted h (ht t (by simp)) fun x hx hy => ?_) (fun u hu=>ht u (by simp [hu])) ?_
    ·exact (List.nodup_append.1 hn).2.2 x hx x (by simp [hy]) rfl
    ·have hp:(mergeL l t.2++placesT ts).Perm (l++(t.2++placesT ts)):=by
      rw [← List.append_assoc]
      exact List.Perm.append_right _ (mergeL_perm l t.2)
     exact hp.nodup_iff.2 hn
   ·rw [if_neg hs]
    refine foldM_sorted s whole ts l h (fun u hu=>ht u (by simp [hu])) (hn.sublist ?_)
    exact List.Sublist.append (List.Sublist.refl _) (List.sublist_append_right _ _)
theorem posOf_sorted (e:Ev) (x:List UInt8):(posOf (termsE e) x).Pairwise (·<·):=by
 by_cases hc:checkE e=0
 ·rw [termsE_ok hc,termsF_pos]
  exact (pairsF_rise e.2 0).sublist (List.filter_sublist.map _)
 ·rw [termsE_bad hc];exact List.Pairwise.nil
theorem places_nodup (e:Ev):(placesT (termsE e)).Nodup:=by
 by_cases hc:checkE e=0
 ·rw [termsE_ok hc]
  exact (termsF_perm e.2).nodup_iff.2 (allF_nodup e.2)
 ·rw [termsE_bad hc];exact List.nodup_nil
theorem ofE_sorted (e:Ev) (s:List UInt8) (whole:Bool):(ofE e s whole).Pairwise (·<·):=by
 refine foldM_sorted s whole (termsE e) [] List.Pairwise.nil (fun t ht => ?_) (by rw [List.nil_append];exact places_nodup e)
 rw [← posOf_mem (termsE_rising e) ht]
 exact posOf_sorted e t.1
theorem ofE_mem {e:Ev} {s:List UInt8} {whole:Bool} {z:Int}:z∈ofE e s whole↔∃ t∈termsE e,selM s whole t.1=true∧z∈t.2:=by
 unfold ofE
 rw [(ofT_perm _ s whole).mem_iff]
 unfold allT
 rw [List.mem_flatMap]
 constructor
 ·rintro ⟨t,ht,hz⟩
  obtain ⟨h1,h2⟩:=List.mem_filter.1 ht
  exact ⟨t,h1,h2,hz⟩
 ·rintro ⟨t,h1,h2,hz⟩
  exact ⟨t,List.mem_filter.2 ⟨h1,h2⟩,hz⟩
theorem ofE_unique {e:Ev} {s:List UInt8} {whole:Bool} {l:List Int} (h:l.Pairwise (·<·)) (hm:∀ z,z∈l↔∃ t∈termsE e,selM s whole t.1=true∧z∈t.2):l=ofE e s whole :=
 sorted_unique h (ofE_sorted e s whole) fun z=>by rw [hm,ofE_mem]
theorem ofE_whole (e:Ev) (s:List UInt8):ofE e s true=posOf (termsE e) s:=by
 refine (ofE_unique (posOf_sorted e s) fun z => ?_).symm
 constructor
 ·intro hz
  exact ⟨_,posOf_some (l:=termsE e) (x:=s) (fun h=>by rw [h] at hz;simp at hz),by simp [selM],hz⟩
 ·rintro ⟨t,ht,hs,hz⟩
  have e1:t.1=s:=by simpa [selM] using hs
  have:=posOf_mem (termsE_rising e) ht
  rw [e1] at this
  rw [this]
  exact hz
theorem ofE_bounds {e:Ev} {s:List UInt8} {whole:Bool}:∀ z∈ofE e s whole, -1<z∧z<1048576:=fun z hz=>by
 obtain ⟨t,ht,_,hz⟩:=ofE_mem.1 hz
 have h1:=posOf_mem (termsE_rising e) ht
 have h2:=termsE_rise e t.1
 rw [h1] at h2
 have gen:∀ (zs:List Int) (a:Int),riseF 1048576 a zs=true→∀ z∈zs,a<z∧z<1048576:=by
  intro zs
  induction zs with
  | nil=>intro a _ z hz;simp at hz
  | cons y ys ih =>
    intro a h z hz
    rw [riseF,Bool.and_eq_true,Bool.and_eq_true,decide_eq_true_eq,decide_eq_true_eq] at h
    rcases List.mem_cons.1 hz with rfl | hz
    ·exact h.1
    ·have:=ih y h.2 z hz
     omega
 exact gen t.2 (-1) h2 z hz
theorem ofE_rise (e:Ev) (s:List UInt8) (whole:Bool):riseL 1048576 (ofE e s whole)=true:=riseF_of ofE_bounds (ofE_sorted e s whole)
def postsO:Int→List (List Int)→List Post
 | _,[]=>[]
 | i,p::r=>(if p=[] then [] else [(i,p)])++postsO (i+1) r
theorem postsO_append:∀ (a b:List (List Int)) (i:Int),postsO i (a++b)=postsO i a++postsO (i+(a.length:Int)) b
 | [],b,i=>by simp [postsO]
 | t::a,b,i=>by
   rw [List.cons_append,postsO,postsO,postsO_append a b,List.append_assoc,List.length_cons]
   congr 3
   omega
theorem postsO_T:∀ (tss:List (List Trm)) (i:Int) (x:List UInt8),postsT i tss x=postsO i (tss.map fun ts=>posOf ts x)
 | [],i,x=>rfl
 | ts::r,i,x=>by rw [postsT,List.map_cons,postsO,postsO_T r]
def postsM (es:List Ev) (s:List UInt8) (whole:Bool):List Post:=postsO 0 (es.map fun e=>ofE e s whole)
theorem postsM_next {es:List Ev} {k:Nat} (hk:k<es.length) (s:List UInt8) (whole:Bool):postsM (es.take (k+1)) s whole=postsM (es.take k) s whole++if ofE es[k] s whole=[] then [] else [((k:Int),ofE es[k] s whole)]:=by
 unfold postsM
 rw [List.take_succ_eq_append_getElem hk,List.map_append,postsO_append,List.length_map,List.length_take,Nat.min_eq_left (Nat.le_of_lt hk),Int.zero_add,List.map_cons,List.map_nil,postsO,postsO,List.append_nil]
theorem postsM_whole (es:List Ev) (s:List UInt8):postsM es s true=posOf (rowsE es) s:=by
 rw [rowsE_posts,postsO_T]
 unfold postsM
 congr 1
 rw [List.map_map]
 apply List.map_congr_left
 intro e _
 exact ofE_whole e s
theorem postsO_mem:∀ {l:List (List Int)} {b:Int} {p:Post},p∈postsO b l↔∃ (k:Nat) (hk:k<l.length),p=(b+(k:Int),l[k])∧l[k]≠[]
 | [],b,p=>by simp [postsO]
 | q::r,b,p=>by
   rw [postsO,List.mem_append,postsO_mem (l:=r)]
   constructor
   ·rintro (h | ⟨k,hk,h1,h2⟩)
    ·split at h
     ·simp at h
     ·rename_i hne
      obtain rfl:=List.mem_singleton.1 h
      exact ⟨0,by simp,by simp,hne⟩
    ·exact ⟨k+1,by simpa using hk,by rw [h1];simp;omega,by simpa using h2⟩
   ·rintro ⟨k,hk,h1,h2⟩
    match k,hk,h1,h2 with
    | 0,hk,h1,h2 =>
      simp only [List.getElem_cons_zero] at h1 h2
      exact .inl (by rw [if_neg h2,h1];simp)
    | k+1,hk,h1,h2=>exact .inr ⟨k,by simpa using hk,by rw [h1];simp;omega,by simpa using h2⟩
def RiseT (l:List (List UInt8)):Prop:=l.Pairwise fun a b=>lessL a b=true
theorem riseT_unique:∀ {a b:List (List UInt8)},RiseT a→RiseT b→(∀ x,x∈a↔x∈b)→a=b
 | [],[],_,_,_=>rfl
 | [],y::b,_,_,h=>absurd ((h y).2 (by simp)) (by simp)
 | x::a,[],_,_,h=>absurd ((h x).1 (by simp)) (by simp)
 | x::a,y::b,ha,hb,h=>by
   unfold RiseT at ha hb
   rw [List.pairwise_cons] at ha hb
   have e:x=y:=by
    have h1:=(h x).1 (by simp)
    have h2:=(h y).2 (by simp)
    rcases List.mem_cons.1 h1 with h1 | h1
    ·exact h1
    ·rcases List.mem_cons.1 h2 with h2 | h2
     ·exact h2.symm
     ·exact absurd rfl (lessL_ne (lessL_trans (hb.1 x h1) (ha.1 y h2)))
   subst e
   rw [riseT_unique (a:=a) (b:=b) ha.2 hb.2 fun z => ?_]
   constructor
   ·intro hz
    rcases List.mem_cons.1 ((h z).1 (by simp [hz])) with e | h3
    ·exact absurd e.symm (lessL_ne (ha.1 z hz))
    ·exact h3
   ·intro hz
    rcases List.mem_cons.1 ((h z).2 (by simp [hz])) with e | h3
    ·exact absurd e.symm (lessL_ne (hb.1 z hz))
    ·exact h3
def withL:List (List UInt8)→List UInt8→List (List UInt8)
 | [],s=>[s]
 | t::r,s=>if lessL t s=true then t::withL r s else if t=s then t::r else s::t::r
theorem withL_mem:∀ {l:List (List UInt8)} {s x:List UInt8},x∈withL l s↔x=s∨x∈l
 | [],s,x=>by simp [withL]
 | t::r,s,x=>by
   rw [withL]
   split
   ·rw [List.mem_cons,withL_mem,List.mem_cons]
    constructor
    ·rintro (h | h | h)
     ·exact .inr (.inl h)
     ·exact .inl h
     ·exact .inr (.inr h)
    ·rintro (h | h | h)
     ·exact .inr (.inl h)
     ·exact .inl h
     ·exact .inr (.inr h)
   ·split
    ·rename_i _ e
     subst e
     constructor
     ·exact fun h=>.inr h
     ·rintro (rfl | h)
      ·simp
      ·exact h
    ·rw [List.mem_cons]
theorem withL_rise:∀ {l:List (List UInt8)} (s:List UInt8),RiseT l→RiseT (withL l s)
 | [],s,_=>by simp [withL,RiseT]
 | t::r,s,h=>by
   unfold RiseT at h ⊢
   have h':=List.pairwise_cons.1 h
   rw [withL]
   split
   ·rename_i ht
    rw [List.pairwise_cons]
    refine ⟨fun u hu => ?_,withL_rise s h'.2⟩
    rcases withL_mem.1 hu with rfl | hu
    ·exact ht
    ·exact h'.1 u hu
   ·split
    ·exact h
    ·rename_i h1 h2
     have hs:lessL s t=true:=lessL_total (by simpa using h1) h2
     rw [List.pairwise_cons]
     refine ⟨fun u hu => ?_,h⟩
     rcases List.mem_cons.1 hu with rfl | hu
     ·exact hs
     ·exact lessL_trans hs (h'.1 u hu)
def withA (l:List (List UInt8)) (ss:List (List UInt8)):List (List UInt8):=ss.foldl withL l
theorem withA_mem:∀ {ss l:List (List UInt8)} {x:List UInt8},x∈withA l ss↔x∈l∨x∈ss
 | [],l,x=>by simp [withA]
 | s::ss,l,x=>by
   have e:withA l (s::ss)=withA (withL l s) ss:=rfl
   rw [e,withA_mem,withL_mem,List.mem_cons]
   constructor
   ·rintro ((h | h) | h)
    ·exact .inr (.inl h)
    ·exact .inl h
    ·exact .inr (.inr h)
   ·rintro (h | h | h)
    ·exact .inl (.inr h)
    ·exact .inl (.inl h)
    ·exact .inr h
theorem withA_rise:∀ (ss:List (List UInt8)) {l:List (List UInt8)},RiseT l→RiseT (withA l ss)
 | [],l,h=>h
 | s::ss,l,h=>withA_rise ss (withL_rise s h)
def termsM (es:List Ev):List (List UInt8):=withA [] (es.flatMap fun e=>(termsE e).map (·.1))
theorem termsM_rise (es:List Ev):RiseT (termsM es):=withA_rise _ (by simp [RiseT])
theorem termsM_mem {es:List Ev} {x:List UInt8}:x∈termsM es↔∃ e∈es,posOf (termsE e) x≠[]:=by
 unfold termsM
 rw [withA_mem,List.mem_flatMap]
 constructor
 ·rintro (h | ⟨e,he,h⟩)
  ·simp at h
  ·obtain ⟨t,ht,rfl⟩:=List.mem_map.1 h
   exact ⟨e,he,by rw [posOf_mem (termsE_rising e) ht];exact termsE_ne e t ht⟩
 ·rintro ⟨e,he,h⟩
  exact .inr ⟨e,he,List.mem_map.2 ⟨_,posOf_some h,rfl⟩⟩
theorem termsM_rows (es:List Ev):termsM es=(rowsE es).map (·.1):=by
 refine riseT_unique (termsM_rise es) ?_ fun x => ?_
 ·unfold RiseT
  rw [List.pairwise_map]
  exact rowsE_rising es
 ·rw [termsM_mem,List.mem_map]
  constructor
  ·rintro ⟨e,he,h⟩
   obtain ⟨k,hk,rfl⟩:=List.getElem_of_mem he
   have hne:posOf (rowsE es) x≠[]:=by
    rw [rowsE_posts]
    intro hn
    have:=(postsT_mem (tss:=es.map termsE) (b:=0) (x:=x) (p:=((0:Int)+(k:Int),posOf (termsE es[k]) x))).2 ⟨k,by rw [List.length_map];exact hk,by rw [List.getElem_map],by rw [List.getElem_map];exact h⟩
    rw [hn] at this
    simp at this
   exact ⟨_,posOf_some hne,rfl⟩
  ·rintro ⟨r,hr,rfl⟩
   obtain ⟨ts,hts,t,ht,e⟩:=rowsT_mem hr
   obtain ⟨ev,hev,rfl⟩:=List.mem_map.1 hts
   refine ⟨ev,hev,?_⟩
   rw [e,posOf_mem (termsE_rising ev) ht]
   exact termsE_ne ev t ht
def docsM (b:Bat):List Doc:=b.2.zipIdx.map fun p=>(b.1+(p.2:Int),p.1)
theorem docsM_len (b:Bat):(docsM b).length=b.2.length:=by simp [docsM]
theorem docsM_at {b:Bat} {k:Nat} (hk:k<b.2.length):(docsM b)[k]'(by rw [docsM_len];exact hk)=(b.1+(k:Int),b.2[k]):=by simp [docsM]
def addM (l:List Doc) (b:Bat):List Doc×Int :=
 if checkB b≠0 then (l,checkB b)
 else if l≠[]∧b.1≠(l.getD (l.length - 1) SM.noDoc).1+1 then (l,140)
 else if 65536 - (l.length:Int)<(b.2.length:Int) then (l,3)
 else (l++docsM b,0)
def sizeM (l:List Doc):Nat:=(l.map fun d=>sizeE d.2).sum
theorem sizeM_append (a b:List Doc):sizeM (a++b)=sizeM a+sizeM b:=by simp [sizeM]
def timesM:List Doc→Int×Int×Bool
 | []=>(0,0,false)
 | d::r=>(r.foldl (fun z x=>min z x.2.1) d.2.1,r.foldl (fun z x=>max z x.2.1) d.2.1,true)
theorem timesM_append {l:List Doc} (h:l≠[]) (d:Doc):timesM (l++[d])=(min (timesM l).1 d.2.1,max (timesM l).2.1 d.2.1,true):=by
 cases l with
 | nil=>exact absurd rfl h
 | cons x r=>simp [timesM]
def seqsM (l:List Doc):Int×Int:=if l=[] then (0,0) else ((l.getD 0 SM.noDoc).1,(l.getD (l.length - 1) SM.noDoc).1)
end Go.Proofs.YtidhgicajlaafaaGreat.MM
