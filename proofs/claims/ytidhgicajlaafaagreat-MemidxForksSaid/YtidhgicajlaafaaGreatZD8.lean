import Derived.Test.YtidhgicajlaafaaGreatZD6
import Derived.Test.YtidhgicajlaafaaGreatZD7
set_option maxRecDepth 100000
set_option maxHeartbeats 8000000
set_option linter.unusedVariables false
set_option linter.unusedSimpArgs false
namespace Go.Proofs.YtidhgicajlaafaaGreat.RM
open Go
open TK (wordsB wordsB_count word_self)
open EM (Fld Ev Tr Trm checkE checkE_ok name_len termsE termsF termsF_pos termsF_rising termsF_ne Rising addP foldP foldP_append foldP_rising foldP_ne posOf posOf_none posOf_fold pairsF pairsW pairsW_snd pairsF_rise pairsF_bounds baseF lessL lessL_ne addP_mem rising_unique)
open PM (Post riseF riseL isL isL_ok okL okP okL_len)
theorem termsE_ok {e:Ev} (h:checkE e=0):termsE e=termsF e.2:=by unfold termsE;rw [if_neg (by simpa using h)]
theorem termsE_bad {e:Ev} (h:checkE e≠0):termsE e=[]:=by unfold termsE;rw [if_pos h]
theorem termsE_rising (e:Ev):Rising (termsE e):=by
 by_cases h:checkE e=0
 ·rw [termsE_ok h];exact termsF_rising _
 ·rw [termsE_bad h];simp [Rising]
theorem termsE_ne (e:Ev):∀ t∈termsE e,t.2≠[]:=by
 by_cases h:checkE e=0
 ·rw [termsE_ok h];exact termsF_ne _
 ·rw [termsE_bad h];simp
theorem posOf_mem {α:Type}:∀ {l:List (Tr α)} {t:Tr α},Rising l→t∈l→posOf l t.1=t.2
 | u::r,t,h,hm=>by
   unfold Rising at h
   rw [List.pairwise_cons] at h
   rw [posOf]
   rcases List.mem_cons.1 hm with rfl | hm
   ·rw [if_pos rfl]
   ·rw [if_neg (lessL_ne (h.1 t hm))]
    exact posOf_mem h.2 hm
theorem posOf_some {α:Type}:∀ {l:List (Tr α)} {x:List UInt8},posOf l x≠[]→(x,posOf l x)∈l
 | [],x,h=>absurd rfl h
 | t::r,x,h=>by
   rw [posOf] at h ⊢
   by_cases e:t.1=x
   ·rw [if_pos e];subst e;exact List.mem_cons_self
   ·rw [if_neg e] at h ⊢
    exact List.mem_cons_of_mem _ (posOf_some h)
theorem foldP_mem {α:Type}:∀ (qs:List (List UInt8×α)) {l:List (Tr α)} {t:Tr α},t∈foldP l qs→(∃ u∈l,u.1=t.1)∨∃ q∈qs,q.1=t.1
 | [],l,t,h=>.inl ⟨t,h,rfl⟩
 | q::qs,l,t,h=>by
   rcases foldP_mem qs (l:=addP l q.1 q.2) h with ⟨u,hu,e⟩ | ⟨p,hp,e⟩
   ·rcases addP_mem hu with h1 | ⟨v,hv,h1⟩
    ·exact .inr ⟨q,by simp,by rw [← e,h1]⟩
    ·exact .inl ⟨v,hv,by rw [← e,h1]⟩
   ·exact .inr ⟨p,by simp [hp],e⟩
theorem pairsF_mem:∀ {fs:List Fld} {base:Int} {q:List UInt8×Int},q∈pairsF base fs→∃ f∈fs,∃ x∈wordsB f.2,q.1=f.1++58::x
 | f::r,base,q,h=>by
   rw [pairsF,List.mem_append] at h
   rcases h with h | h
   ·unfold pairsW at h
    obtain ⟨p,hp,rfl⟩:=List.mem_map.1 h
    exact ⟨f,by simp,p.1,(List.mem_zipIdx hp).2.2▸List.getElem_mem _,rfl⟩
   ·obtain ⟨g,hg,h⟩:=pairsF_mem h
    exact ⟨g,by simp [hg],h⟩
theorem termsE_len {e:Ev} {t:Trm} (h:t∈termsE e):1≤t.1.length∧t.1.length≤65:=by
 by_cases hc:checkE e=0
 ·rw [termsE_ok hc] at h
  rcases foldP_mem _ h with ⟨u,hu,_⟩ | ⟨q,hq,e1⟩
  ·simp at hu
  ·obtain ⟨f,hf,x,hx,e2⟩:=pairsF_mem hq
   have h1:=name_len ((checkE_ok.1 hc).2 f hf).1
   have h2:=(word_self f.2 x hx).2
   rw [← e1,e2]
   simp only [List.length_append,List.length_cons]
   omega
 ·rw [termsE_bad hc] at h;simp at h
theorem pairsF_above:∀ (fs:List Fld) (base:Int),∀ v∈(pairsF base fs).map (·.2),v<base+baseF fs
 | [],base,v,h=>by simp [pairsF] at h
 | f::r,base,v,h=>by
   have e:baseF (f::r)=((wordsB f.2).length:Int)+64+baseF r:=by simp [baseF]
   have hp:0≤baseF r:=by
    clear h e
    induction r with
    | nil=>simp [baseF]
    | cons g r ih=>have:baseF (g::r)=((wordsB g.2).length:Int)+64+baseF r:=by simp [baseF]
                   omega
   rw [pairsF,List.map_append,List.mem_append,pairsW_snd] at h
   rcases h with h | h
   ·obtain ⟨k,hk,rfl⟩:=List.mem_map.1 h
    have:=List.mem_range.1 hk
    omega
   ·have:=pairsF_above r _ v h
    omega
theorem baseF_le:∀ {fs:List Fld},(∀ f∈fs,f.2.length≤4096)→baseF fs≤4160*(fs.length:Int)
 | [],_=>by simp [baseF]
 | f::r,h=>by
   have e:baseF (f::r)=((wordsB f.2).length:Int)+64+baseF r:=by simp [baseF]
   have h1:=wordsB_count f.2
   have h2:=h f (by simp)
   have h3:=baseF_le (fs:=r) fun g hg=>h g (by simp [hg])
   rw [e,List.length_cons]
   omega
theorem riseF_of {fin:Int}:∀ {zs:List Int} {a:Int},(∀ z∈zs,a<z∧z<fin)→zs.Pairwise (·<·)→riseF fin a zs=true
 | [],a,_,_=>rfl
 | z::zs,a,h,hp=>by
   rw [List.pairwise_cons] at hp
   have h0:=h z (by simp)
   rw [riseF,Bool.and_eq_true,Bool.and_eq_true,decide_eq_true_eq,decide_eq_true_eq]
   exact ⟨h0,riseF_of (fun y hy=>⟨hp.1 y hy,(h y (by simp [hy])).2⟩) hp.2⟩
theorem termsE_rise (e:Ev) (x:List UInt8):riseL 1048576 (posOf (termsE e) x)=true:=by
 by_cases hc:checkE e=0
 ·obtain ⟨h1,h2⟩:=checkE_ok.1 hc
  rw [termsE_ok hc,termsF_pos]
  have hsub:(((pairsF 0 e.2).filter (fun q=>q.1=x)).map (·.2)).Sublist ((pairsF 0 e.2).map (·.2)):=List.filter_sublist.map _
  refine riseF_of (fun z hz => ?_) ((pairsF_rise e.2 0).sublist hsub)
  have hm:=hsub.subset hz
  have b1:=pairsF_bounds e.2 0 z hm
  have b2:=pairsF_above e.2 0 z hm
  have b3:=baseF_le fun f hf=>(h2 f hf).2
  omega
 ·rw [termsE_bad hc];rfl
def pairsP:Int→List (List Trm)→List (List UInt8×Post)
 | _,[]=>[]
 | i,ts::r=>ts.map (fun t=>(t.1,(i,t.2)))++pairsP (i+1) r
theorem pairsP_append:∀ (a b:List (List Trm)) (i:Int),pairsP i (a++b)=pairsP i a++pairsP (i+(a.length:Int)) b
 | [],b,i=>by simp [pairsP]
 | t::a,b,i=>by
   rw [List.cons_append,pairsP,pairsP,pairsP_append a b,List.append_assoc,List.length_cons]
   congr 3
   omega
def rowsT (tss:List (List Trm)):List (Tr Post):=foldP [] (pairsP 0 tss)
theorem rowsT_rising (tss:List (List Trm)):Rising (rowsT tss):=foldP_rising _ (by simp [Rising])
theorem rowsT_ne (tss:List (List Trm)):∀ t∈rowsT tss,t.2≠[]:=foldP_ne _ (by simp)
theorem pairsP_mem:∀ {tss:List (List Trm)} {i:Int} {q:List UInt8×Post},q∈pairsP i tss→∃ ts∈tss,∃ t∈ts,q.1=t.1
 | ts::r,i,q,h=>by
   rw [pairsP,List.mem_append] at h
   rcases h with h | h
   ·obtain ⟨t,ht,rfl⟩:=List.mem_map.1 h
    exact ⟨ts,by simp,t,ht,rfl⟩
   ·obtain ⟨us,hu,h⟩:=pairsP_mem h
    exact ⟨us,by simp [hu],h⟩
theorem rowsT_mem {tss:List (List Trm)} {r:Tr Post} (h:r∈rowsT tss):∃ ts∈tss,∃ t∈ts,r.1=t.1:=by
 rcases foldP_mem _ h with ⟨u,hu,_⟩ | ⟨q,hq,e⟩
 ·simp at hu
 ·obtain ⟨ts,h1,t,h2,h3⟩:=pairsP_mem hq
  exact ⟨ts,h1,t,h2,by rw [← e,h3]⟩
def postsT:Int→List (List Trm)→List UInt8→List Post
 | _,[],_=>[]
 | i,ts::r,x=>(if posOf ts x=[] then [] else [(i,posOf ts x)])++postsT (i+1) r x
theorem filter_one:∀ {ts:List Trm} (i:Int) (x:List UInt8),Rising ts→(∀ t∈ts,t.2≠[]) →
  ((ts.map fun t=>(t.1,((i,t.2):Post))).filter (fun q=>q.1=x)).map (·.2)=if posOf ts x=[] then [] else [(i,posOf ts x)]
 | [],i,x,_,_=>by simp [posOf]
 | t::r,i,x,h,hn=>by
   unfold Rising at h
   rw [List.pairwise_cons] at h
   have ih:=filter_one i x h.2 fun u hu=>hn u (by simp [hu])
   rw [List.map_cons,posOf]
   by_cases e:t.1=x
   ·subst e
    have h0:posOf r t.1=[]:=posOf_none fun u hu hx=>lessL_ne (h.1 u hu) hx.symm
    rw [if_pos rfl,if_neg (hn t (by simp)),List.filter_cons_of_pos (by simp),List.map_cons,ih,h0]
    simp
   ·rw [if_neg e,List.filter_cons_of_neg (by simpa using e),ih]
theorem pairsP_posts:∀ {tss:List (List Trm)} (i:Int) (x:List UInt8),(∀ ts∈tss,Rising ts∧∀ t∈ts,t.2≠[])→((pairsP i tss).filter (fun q=>q.1=x)).map (·.2)=postsT i tss x
 | [],i,x,_=>rfl
 | ts::r,i,x,h=>by
   rw [pairsP,List.filter_append,List.map_append,postsT,filter_one i x (h ts (by simp)).1 (h ts (by simp)).2,pairsP_posts (i+1) x fun us hu=>h us (by simp [hu])]
theorem rowsT_posts {tss:List (List Trm)} (h:∀ ts∈tss,Rising ts∧∀ t∈ts,t.2≠[]) (x:List UInt8):posOf (rowsT tss) x=postsT 0 tss x:=by
 unfold rowsT
 rw [posOf_fold _ _ (by simp [Rising]),pairsP_posts 0 x h]
 rfl
theorem postsT_mem:∀ {tss:List (List Trm)} {b:Int} {x:List UInt8} {p:Post},p∈postsT b tss x↔∃ (k:Nat) (hk:k<tss.length),p=(b+(k:Int),posOf tss[k] x)∧posOf tss[k] x≠[]
 | [],b,x,p=>by simp [postsT]
 | ts::r,b,x,p=>by
   rw [postsT,List.mem_append,postsT_mem (tss:=r)]
   constructor
   ·rintro (h | ⟨k,hk,h1,h2⟩)
    ·split at h
     ·simp at h
     ·rename_i hne
      obtain rfl:=List.mem_singleton.1 h
      exact ⟨0,by simp,by simp,hne⟩
    ·exact ⟨k+1,by simpa using hk,by rw [h1];simp;omega,by simpa using h2⟩
   ·rintro ⟨k,hk,h1,h2⟩
    match k,hk,h1,h2 with
    | 0,hk,h1,h2 =>
      simp only [List.getElem_cons_zero] at h1 h2
      exact .inl (by rw [if_neg h2,h1];simp)
    | k+1,hk,h1,h2=>exact .inr ⟨k,by simpa using hk,by rw [h1];simp;omega,by simpa using h2⟩
theorem okL_mono {ps:List Post} {n m:Int} (h:okL n ps) (hm:m≤n):okL m ps:=by
 cases ps with
 | nil=>trivial
 | cons p ps =>
   rw [okL] at h ⊢
   unfold okP at h ⊢
   exact ⟨⟨by omega,h.1.2⟩,h.2⟩
theorem postsT_ok:∀ {tss:List (List Trm)} {n:Int} {x:List UInt8},(∀ ts∈tss,riseL 1048576 (posOf ts x)=true)→n+(tss.length:Int)≤65536→okL n (postsT n tss x)
 | [],n,x,_,_=>trivial
 | ts::r,n,x,h,hn=>by
   rw [List.length_cons] at hn
   have ih:=postsT_ok (tss:=r) (n:=n+1) (x:=x) (fun us hu=>h us (by simp [hu])) (by omega)
   rw [postsT]
   split
   ·rw [List.nil_append]
    exact okL_mono ih (by omega)
   ·rename_i hne
    rw [List.singleton_append,okL]
    refine ⟨⟨by omega,?_,hne,h ts (by simp)⟩,ih⟩
    show n<65536
    omega
theorem posts_may (es:List Ev) (x:List UInt8) (h:es.length≤65536):isL (postsT 0 (es.map termsE) x)=true:=by
 rw [isL_ok]
 refine postsT_ok (fun ts hts => ?_) (by rw [List.length_map];omega)
 obtain ⟨e,_,rfl⟩:=List.mem_map.1 hts
 exact termsE_rise e x
theorem terms_all (es:List Ev):∀ ts∈es.map termsE,Rising ts∧∀ t∈ts,t.2≠[]:=fun ts hts=>by
 obtain ⟨e,_,rfl⟩:=List.mem_map.1 hts
 exact ⟨termsE_rising e,termsE_ne e⟩
def rowsE (es:List Ev):List (Tr Post):=rowsT (es.map termsE)
theorem rowsE_rising (es:List Ev):Rising (rowsE es):=rowsT_rising _
theorem rowsE_posts (es:List Ev) (x:List UInt8):posOf (rowsE es) x=postsT 0 (es.map termsE) x:=rowsT_posts (terms_all es) x
theorem rowsE_may {es:List Ev} (h:es.length≤65536) {r:Tr Post} (hr:r∈rowsE es):isL r.2=true∧r.2≠[]:=by
 have e:=posOf_mem (rowsE_rising es) hr
 rw [rowsE_posts] at e
 exact ⟨by rw [← e];exact posts_may es r.1 h,rowsT_ne _ r hr⟩
theorem rowsE_count {es:List Ev} (h:es.length≤65536) {r:Tr Post} (hr:r∈rowsE es):r.2.length≤65536:=okL_len _ ((isL_ok _).1 (rowsE_may h hr).1)
end Go.Proofs.YtidhgicajlaafaaGreat.RM
namespace Go.Proofs.YtidhgicajlaafaaGreat.DM
open Go VM
open EM (lessL lessL_irr lessL_trans lessL_total lessL_ne)
end Go.Proofs.YtidhgicajlaafaaGreat.DM
namespace Go.Proofs.YtidhgicajlaafaaGreat.SM
open Go VM
open EM (Fld Ev checkE sizeF sizeF_of_ok checkE_ok)
abbrev Doc:=Int×Ev
def noDoc:Doc:=(0,(0,[]))
end Go.Proofs.YtidhgicajlaafaaGreat.SM
namespace Go.Proofs.YtidhgicajlaafaaGreat.GM
open Go VM
open TK (wordsB wordsB_count)
open EM (Ev Tr Trm Fld Rising posOf termsE termsF placesT foldP foldP_perm places_len wordsN sizeF addP checkE)
open PM (Post isL)
open RM (rowsE rowsT pairsP pairsP_append termsE_ok termsE_bad termsE_ne rowsE_count)
theorem sizeF_cons (f:Fld) (r:List Fld):sizeF (f::r)=f.1.length+f.2.length+sizeF r:=by simp [sizeF]
theorem wordsN_le:∀ fs:List Fld,wordsN fs≤sizeF fs
 | []=>by simp [wordsN]
 | f::r=>by
   have h1:=wordsN_le r
   have h2:=wordsB_count f.2
   have e:wordsN (f::r)=(wordsB f.2).length+wordsN r:=by simp [wordsN]
   rw [e,sizeF_cons]
   omega
theorem places_cons {α:Type} (t:Tr α) (T:List (Tr α)):(placesT (t::T)).length=t.2.length+(placesT T).length:=by simp [placesT]
theorem len_places {α:Type}:∀ {T:List (Tr α)},(∀ t∈T,t.2≠[])→T.length≤(placesT T).length
 | [],_=>by simp
 | t::T,h=>by
   have h1:=len_places (T:=T) fun u hu=>h u (by simp [hu])
   have h2:=List.length_pos_iff.2 (h t (by simp))
   rw [places_cons,List.length_cons]
   omega
theorem termsE_places (e:Ev):(placesT (termsE e)).length≤wordsN e.2:=by
 by_cases h:checkE e=0
 ·rw [termsE_ok h,places_len];exact Nat.le_refl _
 ·rw [termsE_bad h];simp [placesT]
end Go.Proofs.YtidhgicajlaafaaGreat.GM
namespace Go.Proofs.YtidhgicajlaafaaGreat.MM
open Go Go.RowKit
def Two (w:World) (g:Nat) (t:TypeId) (a b:Value):Prop:=w.heap[g]? = some (.cells #[a,b] t (0,0))
theorem Two.lt {w:World} {g:Nat} {t:TypeId} {a b:Value} (h:Two w g t a b):g<w.heap.size:=(Array.getElem?_eq_some_iff.1 h).1
theorem Two.c0 {w:World} {g:Nat} {t:TypeId} {a b:Value} (h:Two w g t a b):w.cell? ⟨g,0,none⟩=some a:=by rw [cell_of_row w g 0 _ _ _ h];rfl
theorem Two.c1 {w:World} {g:Nat} {t:TypeId} {a b:Value} (h:Two w g t a b):w.cell? ⟨g,1,none⟩=some b:=by rw [cell_of_row w g 1 _ _ _ h];rfl
theorem Two.f0 {w:World} {g:Nat} {t:TypeId} {a b:Value} (h:Two w g t a b):w.frozen? ⟨g,0,none⟩=false:=frozen_of_row w g 0 _ _ h
theorem Two.f1 {w:World} {g:Nat} {t:TypeId} {a b:Value} (h:Two w g t a b):w.frozen? ⟨g,1,none⟩=false:=frozen_of_row w g 1 _ _ h
theorem Two.s0 {w:World} {g:Nat} {t:TypeId} {a b:Value} (h:Two w g t a b) (x:Value):Two (w.setCell ⟨g,0,none⟩ x) g t x b:=heap_setCell_same w g 0 _ _ x h
theorem Two.s1 {w:World} {g:Nat} {t:TypeId} {a b:Value} (h:Two w g t a b) (x:Value):Two (w.setCell ⟨g,1,none⟩ x) g t a x:=heap_setCell_same w g 1 _ _ x h
theorem Two.s01 {w:World} {g:Nat} {t:TypeId} {a b:Value} (h:Two w g t a b) (x y:Value):Two ((w.setCell ⟨g,0,none⟩ x).setCell ⟨g,1,none⟩ y) g t x y:=(h.s0 x).s1 y
theorem Two.keep {S:Nat→Prop} {w w':World} {g:Nat} {t:TypeId} {a b:Value} (h:Two w g t a b) (hk:Kep S w w') (hS:S g):Two w' g t a b:=(hk.block g h.lt hS).trans h
theorem Two.below {B:Nat} {w w':World} {g:Nat} {t:TypeId} {a b:Value} (h:Two w g t a b) (hb:Below B w w') (hg:g<B):Two w' g t a b:=(hb.block g hg).trans h
theorem two_new (w:World) (t:TypeId) (a b:Value):Two (w.alloc (.cells #[a,b] t)) w.heap.size t a b:=heap_alloc_new _ _
theorem Two.all {w:World} {g:Nat} {t:TypeId} {a b:Value} (h:Two w g t a b) (x:Value) :
  w.cell? ⟨g,0,none⟩=some a∧w.cell? ⟨g,1,none⟩=some b∧w.frozen? ⟨g,0,none⟩=false∧w.frozen? ⟨g,1,none⟩=false∧(w.setCell ⟨g,0,none⟩ x).cell? ⟨g,1,none⟩=some b∧(w.setCell ⟨g,0,none⟩ x).frozen? ⟨g,1,none⟩=false :=
 ⟨h.c0,h.c1,h.f0,h.f1,(h.s0 x).c1,(h.s0 x).f1⟩
theorem kep_set0 {w:World} {g i:Nat} (x:Value):Kep (fun b=>b≠g) w (w.setCell ⟨g,i,none⟩ x):=kep_set (fun h=>h rfl) x
theorem kep_set01 {w:World} {g:Nat} (x y:Value):Kep (fun b=>b≠g) w ((w.setCell ⟨g,0,none⟩ x).setCell ⟨g,1,none⟩ y):=(kep_set0 x).trans (kep_set0 y)
section
variable {P : Program} {fn : Func} {t : TypeId} {d : TypeDesc}
theorem results_box1 {p:Tmp} (h:fn.results=#[.cell p t]) (hu:P.underlying t=some d) (hd:(match d with | .struct _ | .array _ _=>true | _=>false)=true) (hi:(P.info? t).map (·.size)=some 2) (tmps:Array Value) (w:World) (g:Nat) (a b:Value)
  (hp:tmps.getD p undef=.pointer (some ⟨g,0,none⟩)) (hg:Two w g t a b):(results fn tmps).run P w=.ok (.agg #[a,b]) w:=by
 have hp':tmps[p]?.getD undef=.pointer (some ⟨g,0,none⟩):=by simpa using hp
 have hl:=run_loadVar_row (P:=P) w g t t _ (0,0) d hg hu hd hi
 simp [results,h,hp',asAddr,hl]
end
end Go.Proofs.YtidhgicajlaafaaGreat.MM
namespace Go.Proofs.YtidhgicajlaafaaGreat.MM
open Go Go.RowKit
theorem text_part (l:List UInt8) (a b:Nat):(⟨l.toArray⟩:ByteArray).extract a b=⟨((l.drop a).take (b - a)).toArray⟩:=by
 apply ByteArray.ext
 rw [ByteArray.data_extract]
 apply Array.toList_inj.1
 simp [List.extract_eq_take_drop]
theorem text_cut (l:List UInt8) (a b:Nat):((⟨l.toArray⟩:ByteArray).extract a b).toList=(l.drop a).take (b - a):=by rw [text_part,Lib.toList_data]
end Go.Proofs.YtidhgicajlaafaaGreat.MM
