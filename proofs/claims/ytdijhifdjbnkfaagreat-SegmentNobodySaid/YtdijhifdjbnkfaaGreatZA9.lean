/-
  
-/
import Derived.Test.YtdijhifdjbnkfaaGreatZA7
import Derived.Test.YtdijhifdjbnkfaaGreatZA8
import Derived.Laws.AppendOwnNone
import Derived.Test.YtdijhifdjbnkfaaGreatZA5
import Derived.Laws.MakeOwn
import Derived.Test.YtdijhifdjbnkfaaGreatZA6
import Derived.Test.YtdijhifdjbnkfaaGreatZA3
set_option linter.unusedVariables false
namespace Go.Proofs.YtdijhifdjbnkfaaGreat.GM
open Go Go.Proofs.YtdijhifdjbnkfaaGreat.VM
open Go.Proofs.YtdijhifdjbnkfaaGreat.TK (wordsB wordsB_count)
open Go.Proofs.YtdijhifdjbnkfaaGreat.EM (Ev Tr Trm Fld Rising posOf termsE termsF placesT foldP foldP_perm places_len wordsN sizeF bytesF bytesE addP bytesF_cons checkE)
open Go.Proofs.YtdijhifdjbnkfaaGreat.PM (Post isL)
open Go.Proofs.YtdijhifdjbnkfaaGreat.DM (Ent encD areD)
open Go.Proofs.YtdijhifdjbnkfaaGreat.SM (Doc isS encS rangeB rangeB_next rangeB_self oneB oneB_at isS_iff noDoc encS_len)
open Go.Proofs.YtdijhifdjbnkfaaGreat.RM (rowsE rowsT pairsP pairsP_append termsE_ok termsE_bad termsE_ne rowsE_len rowsE_count)
open Go.Proofs.YtdijhifdjbnkfaaGreat.BM (roomL roomL_le)
def sumW (l:List Doc):Nat:=(l.map fun d=>sizeF d.2.2).sum
theorem sumW_next {l:List Doc} {k:Nat} (hk:k<l.length):sumW (l.take (k+1))=sumW (l.take k)+sizeF l[k].2.2:=by
 unfold sumW
 rw [List.take_succ_eq_append_getElem hk,List.map_append,List.sum_append]
 simp
theorem sumW_take (l:List Doc) (k:Nat):sumW (l.take k)≤sumW l:=by
 have:sumW l=sumW (l.take k)+sumW (l.drop k):=by
  unfold sumW
  rw [← List.sum_append,← List.map_append,List.take_append_drop]
 omega
theorem sizeF_cons (f:Fld) (r:List Fld):sizeF (f::r)=f.1.length+f.2.length+sizeF r:=by simp [sizeF]
theorem bytesF_ge:∀ fs:List Fld,sizeF fs≤(bytesF fs).length
 | []=>by simp [sizeF]
 | f::r=>by
   have:=bytesF_ge r
   rw [bytesF_cons,sizeF_cons]
   unfold textL
   simp only [List.length_append]
   omega
theorem bytesE_ge (e:Ev):sizeF e.2≤(bytesE e).length:=by
 have:=bytesF_ge e.2
 unfold bytesE
 simp only [List.length_append]
 omega
theorem rangeB_ge (l:List Doc):∀ k,k≤l.length→sumW (l.take k)≤(rangeB l 0 k).length
 | 0,_=>by simp [sumW]
 | k+1,hk=>by
   have ih:=rangeB_ge l k (by omega)
   have h1:=bytesE_ge l[k].2
   rw [rangeB_next (Nat.zero_le _),sumW_next (by omega),List.length_append,oneB_at (by omega),List.length_append]
   omega
theorem sumW_enc (l:List Doc):sumW l≤(SM.encS l).length:=by
 have:=rangeB_ge l l.length (Nat.le_refl _)
 rw [List.take_length] at this
 unfold SM.encS
 simp only [List.length_append]
 omega
theorem wordsN_le:∀ fs:List Fld,wordsN fs≤sizeF fs
 | []=>by simp [wordsN]
 | f::r=>by
   have h1:=wordsN_le r
   have h2:=wordsB_count f.2
   have e:wordsN (f::r)=(wordsB f.2).length+wordsN r:=by simp [wordsN]
   rw [e,sizeF_cons]
   omega
theorem places_cons {α:Type} (t:Tr α) (T:List (Tr α)):(placesT (t::T)).length=t.2.length+(placesT T).length:=by simp [placesT]
theorem len_places {α:Type}:∀ {T:List (Tr α)},(∀ t∈T,t.2≠[])→T.length≤(placesT T).length
 | [],_=>by simp
 | t::T,h=>by
   have h1:=len_places (T:=T) fun u hu=>h u (by simp [hu])
   have h2:=List.length_pos_iff.2 (h t (by simp))
   rw [places_cons,List.length_cons]
   omega
theorem termsE_places (e:Ev):(placesT (termsE e)).length≤wordsN e.2:=by
 by_cases h:checkE e=0
 ·rw [termsE_ok h,places_len];exact Nat.le_refl _
 ·rw [termsE_bad h];simp [placesT]
def costP (p:Post):Nat:=50+10*p.2.length
def costs (ps:List Post):Nat:=(ps.map costP).sum
theorem costs_cons (p:Post) (ps:List Post):costs (p::ps)=costP p+costs ps:=by simp [costs]
theorem costs_append (a b:List Post):costs (a++b)=costs a+costs b:=by simp [costs]
theorem costs_perm {a b:List Post} (h:a.Perm b):costs a=costs b:=(h.map costP).sum_nat
theorem costs_doc (i:Int):∀ (T:List Trm),(∀ t∈T,t.2≠[])→costs ((T.map (fun t=>((t.1,(i,t.2)):List UInt8×Post))).map (·.2))≤60*(placesT T).length
 | [],_=>by simp [costs]
 | t::T,h=>by
   have h1:=costs_doc i T fun u hu=>h u (by simp [hu])
   have h2:=List.length_pos_iff.2 (h t (by simp))
   rw [List.map_cons,List.map_cons,costs_cons,places_cons]
   have e:costP (i,t.2)=50+10*t.2.length:=rfl
   rw [e]
   omega
theorem pairs_costs:∀ (es:List Ev) (i:Int),costs ((pairsP i (es.map termsE)).map (·.2))≤60*(es.map fun e=>sizeF e.2).sum
 | [],i=>by simp [pairsP,costs]
 | e::es,i=>by
   have h1:=pairs_costs es (i+1)
   have h2:=costs_doc i (termsE e) (termsE_ne e)
   have h3:=termsE_places e
   have h4:=wordsN_le e.2
   rw [List.map_cons,pairsP,List.map_append,costs_append,List.map_cons,List.sum_cons]
   omega
theorem costs_len (ps:List Post):50*ps.length≤costs ps:=by
 induction ps with
 | nil=>simp [costs]
 | cons p ps ih=>rw [costs_cons,List.length_cons];unfold costP;omega
theorem pairsP_len (es:List Ev):(pairsP 0 (es.map termsE)).length≤2*(es.map fun e=>sizeF e.2).sum:=by
 have h1:=pairs_costs es 0
 have h2:=costs_len ((pairsP 0 (es.map termsE)).map (·.2))
 rw [List.length_map] at h2
 omega
theorem places_flat {rows:List (Tr Post)}:(rows.map fun r=>costs r.2).sum=costs (placesT rows):=by
 induction rows with
 | nil=>rfl
 | cons r rows ih =>
   have e:placesT (r::rows)=r.2++placesT rows:=by simp [placesT]
   rw [List.map_cons,List.sum_cons,ih,e,costs_append]
theorem sumL_costs:∀ ps:List Post,40*ps.length+10*PM.sumL ps+10*ps.length=costs ps
 | []=>by simp [PM.sumL,costs]
 | p::ps=>by
   have ih:=sumL_costs ps
   rw [PM.sumL,costs_cons,List.length_cons]
   unfold costP
   omega
theorem encL_costs {ps:List Post} (h:ps≠[]):(PM.encL ps).length≤costs ps:=by
 have h0:=List.length_pos_iff.2 h
 have h1:=PM.bodyL_len ps 0
 have h2:=PM.headsR_len ps (PM.cnt ps.length) 0
 have h3:=(bytesL_length ps.length).2
 have h4:=sumL_costs ps
 have h5:PM.cnt ps.length≤ps.length:=by unfold PM.cnt;omega
 unfold PM.encL
 simp only [List.length_append]
 omega
theorem postsG_costs:∀ {rows:List (Tr Post)},(∀ r∈rows,r.2≠[])→(postsG rows).length≤(rows.map fun r=>costs r.2).sum
 | [],_=>by simp [postsG]
 | r::rows,h=>by
   have h1:=postsG_costs (rows:=rows) fun u hu=>h u (by simp [hu])
   have h2:=encL_costs (h r (by simp))
   have e:postsG (r::rows)=PM.encL r.2++postsG rows:=by simp [postsG]
   rw [e,List.length_append,List.map_cons,List.sum_cons]
   omega
theorem rows_costs (l:List Doc):costs (placesT (rowsG l))≤60*sumW l:=by
 have h1:(placesT (rowsG l)).Perm (placesT []++(pairsP 0 ((evs l).map termsE)).map (·.2)):=foldP_perm _ []
 rw [costs_perm h1]
 have h2:=pairs_costs (evs l) 0
 have e:((evs l).map fun e=>sizeF e.2).sum=sumW l:=by unfold evs sumW;rw [List.map_map];rfl
 rw [e] at h2
 simpa [placesT] using h2
theorem rows_posts (l:List Doc):(postsG (rowsG l)).length≤60*sumW l:=by
 have h1:=postsG_costs (rows:=rowsG l) (RM.rowsT_ne _)
 rw [places_flat] at h1
 exact Nat.le_trans h1 (rows_costs l)
theorem costs_some:∀ {ps:List Post},(∀ p∈ps,p.2≠[])→60*ps.length≤costs ps
 | [],_=>by simp
 | p::ps,h=>by
   have h1:=costs_some (ps:=ps) fun q hq=>h q (by simp [hq])
   have h2:=List.length_pos_iff.2 (h p (by simp))
   rw [costs_cons,List.length_cons]
   unfold costP
   omega
theorem rows_count {l:List Doc} (h:isS l=true):(rowsG l).length≤sumW l:=by
 have h1:=len_places (T:=rowsG l) (RM.rowsT_ne _)
 have h2:=costs_some (ps:=placesT (rowsG l)) fun p hp=>by
  obtain ⟨r,hr,hp⟩:=List.mem_flatMap.1 hp
  exact (((PM.isL_iff _).1 (rows_may h r hr).1).2 p hp).1
 have h3:=rows_costs l
 omega
theorem mem_le_sum:∀ {l:List Nat} {x:Nat},x∈l→x≤l.sum
 | y::l,x,h=>by
   rw [List.sum_cons]
   rcases List.mem_cons.1 h with rfl | h
   ·omega
   ·have:=mem_le_sum h;omega
theorem row_costs {l:List Doc} {r:Tr Post} (h:r∈rowsG l):costs r.2≤60*sumW l:=by
 refine Nat.le_trans ?_ (rows_costs l)
 rw [← places_flat]
 exact mem_le_sum (List.mem_map.2 ⟨r,h,rfl⟩)
theorem row_sum {l:List Doc} {r:Tr Post} (h:r∈rowsG l):r.2.length≤2*sumW l∧PM.sumL r.2≤6*sumW l:=by
 have h1:=row_costs h
 have h2:=sumL_costs r.2
 omega
theorem entB_len (ahead:List UInt8) (x:Ent):(DM.entB ahead x).length≤50+x.1.length:=by
 have b1:=(bytesL_length (DM.sharedL ahead x.1)).2
 have b2:=(bytesL_length (x.1.drop (DM.sharedL ahead x.1)).length).2
 have b3:=(bytesL_length x.2.1.toNat).2
 have b4:=(bytesL_length x.2.2.1.toNat).2
 have b5:=(bytesL_length x.2.2.2.toNat).2
 unfold DM.entB textL
 simp only [List.length_append] at *
 rw [List.length_drop] at *
 omega
theorem blockB_len:∀ (ahead:List UInt8) (l:List Ent),(∀ x∈l,x.1.length≤65)→(DM.blockB ahead l).length≤115*l.length
 | _,[],_=>by simp [DM.blockB]
 | a,x::l,h=>by
   have h1:=blockB_len x.1 l fun y hy=>h y (by simp [hy])
   have h2:=entB_len a x
   have h3:=h x (by simp)
   rw [DM.blockB,List.length_append,List.length_cons]
   omega
theorem chunkB_len (l:List Ent) (h:∀ x∈l,x.1.length≤65) (j:Nat):(DM.chunkB l j).length≤10+115*16:=by
 have h1:=blockB_len [] (DM.chunk l j) fun x hx=>h x (List.mem_of_mem_drop (List.mem_of_mem_take hx))
 have h2:(DM.chunk l j).length≤16:=by unfold DM.chunk;rw [List.length_take];omega
 have h3:=(bytesL_length (DM.blockB [] (DM.chunk l j)).length).2
 unfold DM.chunkB
 rw [List.length_append]
 omega
theorem flatMap_le {α β:Type} {f:α→List β} {m:Nat}:∀ {l:List α},(∀ x∈l,(f x).length≤m)→(l.flatMap f).length≤m*l.length
 | [],_=>by simp
 | x::l,h=>by
   have h1:=flatMap_le (l:=l) fun y hy=>h y (by simp [hy])
   have h2:=h x (by simp)
   rw [List.flatMap_cons,List.length_append,List.length_cons,Nat.mul_succ]
   omega
theorem encD_short {l:List Ent} (h:∀ x∈l,x.1.length≤65):(encD l).length≤10+1850*((l.length+15) / 16):=by
 have h1:=flatMap_le (l:=List.range (DM.chunksN l)) (f:=DM.chunkB l) (m:=1850) fun j _=>chunkB_len l h j
 have h2:=(bytesL_length l.length).2
 rw [List.length_range] at h1
 unfold encD DM.chunksB
 rw [List.length_append,List.drop_zero]
 unfold DM.chunksN at h1 ⊢
 omega
theorem ents_short (l:List Doc):∀ x∈entsG 0 (rowsG l),x.1.length≤65:=fun x hx=>by
 have h1:x.1∈(entsG 0 (rowsG l)).map (·.1):=List.mem_map.2 ⟨x,hx,rfl⟩
 rw [entsG_terms] at h1
 obtain ⟨r,hr,e⟩:=List.mem_map.1 h1
 rw [← e]
 exact (rowsE_len hr).2
theorem timesG_len:∀ (l:List Doc) (z:Int),(timesG z l).length≤10*l.length
 | [],_=>by simp [timesG]
 | d::l,z=>by
   have h1:=timesG_len l d.2.1
   have h2:=(bytesL_length (zig (IntKind.i64.wrap (d.2.1 - z)))).2
   rw [timesG,List.length_append,List.length_cons]
   unfold intL
   omega
theorem footB_len (p:Foot):(footB p).length≤50:=by
 have b1:=(bytesL_length (zig p.1)).2
 have b2:=(bytesL_length (zig p.2.1)).2
 have b3:=(bytesL_length (zig p.2.2.1)).2
 have b4:=(bytesL_length (zig p.2.2.2.1)).2
 have b5:=(bytesL_length (zig (p.2.2.2.2:Int))).2
 unfold footB intL
 simp only [List.length_append]
 omega
def Small (l:List Doc):Prop:=isS l=true→(SM.encS l).length≤100000
structure Sized (l:List Doc):Prop where
 docs:l.length≤65536∧l.length<100000
 texts:sumW l≤100000
 rows:(rowsG l).length≤100000
 posts:(postsG (rowsG l)).length≤6000000
 pairs:(pairsP 0 ((evs l).map termsE)).length≤200000
 row:∀ r∈rowsG l,r.2.length≤65536∧PM.sumL r.2≤600000∧r.1.length≤65∧isL r.2=true∧r.2≠[]
 are:areD (entsG 0 (rowsG l))=true
 sects:∀ s∈sectsG l,s.length≤16777216 - 16
theorem sized {l:List Doc} (h:isS l=true) (hs:Small l):Sized l:=by
 have hM:=hs h
 have h0:=encS_len h
 have h1:=sumW_enc l
 have h2:=rows_count h
 have h3:=rows_posts l
 have hn:=(isS_iff.1 h).1
 have e:((evs l).map fun e=>sizeF e.2).sum=sumW l:=by unfold evs sumW;rw [List.map_map];rfl
 have h4:=pairsP_len (evs l)
 rw [e] at h4
 have hA:=ents_are h (by omega) (by omega)
 refine ⟨by omega,by omega,by omega,by omega,by omega,fun r hr => ?_,hA,fun s hm => ?_⟩
 ·have h5:=row_sum hr
  have h6:=rows_may h r hr
  exact ⟨rowsE_count (by unfold evs;rw [List.length_map];exact hn) hr,by omega,(rowsE_len hr).2,h6.1,h6.2⟩
 ·have h5:=timesG_len l 0
  have h6:=encD_short (ents_short l)
  rw [entsG_len] at h6
  have h7:=filterG_len (rowsG l)
  have h8:=(roomL_le (rowsG l).length).2
  have h9:=footB_len (footG l)
  unfold sectsG at hm
  simp only [List.mem_cons,List.not_mem_nil,or_false] at hm
  rcases hm with rfl | rfl | rfl | rfl | rfl | rfl
  ·omega
  ·omega
  ·omega
  ·omega
  ·omega
  ·omega
theorem fits_small {l:List Doc} (h:isS l=true) (hs:Small l):fitsG l=true:=by
 unfold fitsG
 rw [List.all_eq_true]
 intro s hm
 have:=(sized h hs).sects s hm
 rw [decide_eq_true_eq]
 omega
theorem encG_small {l:List Doc} (hs:Small l):encG l=if isS l=true∧l≠[] then (bytesG l,0) else ([],130):=by
 unfold encG
 by_cases h:isS l=true
 ·by_cases h0:l=[]
  ·rw [if_pos (.inr h0),if_neg (fun h=>h.2 h0)]
  ·have hz:=sized h hs
   have h1:=hz.rows
   have h2:=hz.posts
   rw [if_neg (by simp [h,h0]),if_neg,if_pos ⟨h,h0⟩]
   rw [fits_small h hs]
   rintro (h | h | h)
   ·omega
   ·omega
   ·cases h
 ·rw [if_pos (.inl (by simpa using h)),if_neg (fun k=>h k.1)]
end Go.Proofs.YtdijhifdjbnkfaaGreat.GM
set_option linter.unusedVariables false
namespace Go.Proofs.YtdijhifdjbnkfaaGreat.GM
open Go Go.Proofs.YtdijhifdjbnkfaaGreat.VM
open Go.Proofs.YtdijhifdjbnkfaaGreat.SM (Doc isS encS decS decS_put decS_back FitS)
open Go.Proofs.YtdijhifdjbnkfaaGreat.FM (frameL framesL framesL_cons framesL_nil framesL_append getR restR getR_put getR_back restR_ok frameL_inj getR_err)
def headG:List UInt8:=[76,83,69,71]
structure Six (b:List UInt8) (L:List (List UInt8)):Prop where
 head:b.take 4=headG
 six:L.length=6
 most:∀ p∈L,p.length≤16777216
 told:b.drop 4=framesL L
structure Some6 (b:List UInt8) (ls:List (List UInt8)) (rest:List UInt8):Prop where
 most:∀ p∈ls,p.length≤16777216
 told:b=framesL ls++rest
theorem frames_begin:∀ {ls L:List (List UInt8)} {rest:List UInt8},(∀ p∈ls,p.length≤16777216)→(∀ p∈L,p.length≤16777216)→framesL ls++rest=framesL L→ls.length≤L.length→ls=L.take ls.length∧rest=framesL (L.drop ls.length)
 | [],L,rest,_,_,h,_=>⟨by simp,by simpa [framesL_nil] using h⟩
 | p::ls,[],rest,_,_,_,hl=>absurd hl (by simp)
 | p::ls,q::L,rest,h1,h2,h,hl=>by
   rw [framesL_cons,framesL_cons,List.append_assoc] at h
   obtain ⟨rfl,h9⟩:=frameL_inj (h1 p (by simp)) (h2 q (by simp)) h
   obtain ⟨e1,e2⟩:=frames_begin (fun x hx=>h1 x (List.mem_cons_of_mem _ hx)) (fun x hx=>h2 x (List.mem_cons_of_mem _ hx)) h9 (by simpa using hl)
   rw [List.length_cons,List.take_succ_cons,List.drop_succ_cons]
   exact ⟨by rw [← e1],e2⟩
theorem Some6.start (b:List UInt8):Some6 b [] b:=⟨fun _ h=>by simp at h,by simp [framesL_nil]⟩
theorem Some6.next {b rest p:List UInt8} {ls:List (List UInt8)} {k:Nat} (h:Some6 b ls rest) (hg:getR rest=(p,k,0)):Some6 b (ls++[p]) (restR rest):=by
 obtain ⟨h1,h2,h3⟩:=getR_back hg
 refine ⟨fun q hq => ?_,?_⟩
 ·rcases List.mem_append.1 hq with hq | hq
  ·exact h.most q hq
  ·obtain rfl:=List.mem_singleton.1 hq;exact h1
 ·rw [restR_ok hg,framesL_append,framesL_cons,framesL_nil,List.append_nil,List.append_assoc,h3]
  exact h.told
theorem Some6.odd {b rest:List UInt8} {ls:List (List UInt8)} (h:Some6 (b.drop 4) ls rest) (hk:ls.length<6) (he:(getR rest).2.2≠0) (L:List (List UInt8)):¬ Six b L:=fun hL=>by
 obtain ⟨_,e⟩:=frames_begin h.most hL.most (h.told.symm.trans hL.told) (by have:=hL.six;omega)
 have hd:L.drop ls.length=L[ls.length]'(by have:=hL.six;omega)::L.drop (ls.length+1):=List.drop_eq_getElem_cons (by have:=hL.six;omega)
 rw [hd,framesL_cons] at e
 rw [e,getR_put (hL.most _ (List.getElem_mem _))] at he
 exact he rfl
theorem Some6.more {b rest:List UInt8} {ls:List (List UInt8)} (h:Some6 (b.drop 4) ls rest) (hk:ls.length=6) (he:rest≠[]) (L:List (List UInt8)):¬ Six b L:=fun hL=>by
 obtain ⟨_,e⟩:=frames_begin h.most hL.most (h.told.symm.trans hL.told) (by have:=hL.six;omega)
 rw [hk,← hL.six,List.drop_length,framesL_nil] at e
 exact he e
theorem Some6.all {b:List UInt8} {ls:List (List UInt8)} (hb:b.take 4=headG) (h:Some6 (b.drop 4) ls []) (hk:ls.length=6):Six b ls:=⟨hb,hk,h.most,by rw [h.told,List.append_nil]⟩
theorem Six.unique {b:List UInt8} {L M:List (List UInt8)} (h:Six b L) (k:Six b M):L=M:=by
 obtain ⟨e,_⟩:=frames_begin (rest:=[]) h.most k.most (by rw [List.append_nil,← h.told,k.told]) (by rw [h.six,k.six];exact Nat.le_refl _)
 rw [h.six,← k.six,List.take_length] at e
 exact e
theorem six_bytes {l:List Doc} (h:fitsG l=true):Six (bytesG l) (sectsG l) :=
 ⟨rfl,rfl,fun p hp=>by unfold fitsG at h;rw [List.all_eq_true] at h;exact of_decide_eq_true (h p hp),rfl⟩
theorem six_dec {b:List UInt8} {l:List Doc} (h:decG b=some l):Six b (sectsG l):=by
 obtain ⟨h1,_⟩:=decG_back h
 obtain ⟨_,_,_,_,h5,rfl⟩:=encG_ok h1
 exact six_bytes h5
theorem six_none {b:List UInt8} (h:∀ L,¬ Six b L):decG b=none:=by
 cases hd:decG b with
 | none=>rfl
 | some l=>exact absurd (six_dec hd) (h _)
def docsIn (L:List (List UInt8)):List Doc:=(decS (L.headD [])).getD []
theorem docsIn_fit (L:List (List UInt8)):FitS (docsIn L):=by
 unfold docsIn
 cases h:decS (L.headD []) with
 | none=>intro d hd;simp at hd
 | some l=>exact (decS_back h).2.1
theorem docsIn_sects {l:List Doc} (h:isS l=true) (hf:FitS l):docsIn (sectsG l)=l:=by
 show (decS (SM.encS l)).getD []=l
 rw [decS_put h hf];rfl
theorem open_yes {b:List UInt8} {L:List (List UInt8)} (h:Six b L) (he:encG (docsIn L)=(b,0)):decG b=some (docsIn L)∧L=sectsG (docsIn L):=by
 have hd:=decG_iff.2 ⟨he,docsIn_fit L⟩
 exact ⟨hd,h.unique (six_dec hd)⟩
theorem open_no {b:List UInt8} {L:List (List UInt8)} (h:Six b L) (he:encG (docsIn L)≠(b,0)):decG b=none:=by
 cases hd:decG b with
 | none=>rfl
 | some l =>
   obtain ⟨h1,hf⟩:=decG_back hd
   have e:=h.unique (six_dec hd)
   subst e
   rw [docsIn_sects (encG_ok h1).1 hf] at he
   exact absurd h1 he
theorem docsIn_small {L:List (List UInt8)} (h:(L.headD []).length≤100000):Small (docsIn L):=fun hs=>by
 unfold docsIn at hs ⊢
 cases hd:decS (L.headD []) with
 | none=>exact (by decide +kernel:(SM.encS []).length≤100000)
 | some l =>
   show (SM.encS l).length≤100000
   rw [(decS_back hd).2.2]
   exact h
theorem six_len {b:List UInt8} {L:List (List UInt8)} (h:Six b L):(L.headD []).length≤b.length:=by
 have h6:=h.six
 cases hL:L with
 | nil=>simp
 | cons p r =>
   have e:=congrArg List.length h.told
   rw [hL,framesL_cons,List.length_append,List.length_drop] at e
   have h1:=(FM.frameL_bounds p).1
   show p.length≤b.length
   omega
def OpenSmall (b:List UInt8):Prop:=b.length≤1000000000∧∀ L,Six b L→(L.headD []).length≤100000
theorem bytesG_len {l:List Doc} (h:isS l=true) (hs:Small l):(bytesG l).length≤200000000:=by
 have hz:=sized h hs
 have gen:∀ (ps:List (List UInt8)),(∀ p∈ps,p.length≤16777200)→(framesL ps).length≤16777300*ps.length:=by
  intro ps
  induction ps with
  | nil=>intro _;simp [framesL_nil]
  | cons p ps ih =>
    intro hp
    have h1:=(FM.frameL_bounds p).2
    have h2:=hp p (by simp)
    have h3:=ih fun q hq=>hp q (by simp [hq])
    rw [framesL_cons,List.length_append,List.length_cons]
    omega
 have h1:=gen (sectsG l) hz.sects
 have h2:(sectsG l).length=6:=rfl
 unfold bytesG
 rw [List.length_append,List.length_cons,List.length_cons,List.length_cons,List.length_cons,List.length_nil]
 omega
theorem openSmall_bytes {l:List Doc} (h:isS l=true) (hs:Small l):OpenSmall (bytesG l):=by
 refine ⟨by have:=bytesG_len h hs;omega,fun L hL => ?_⟩
 rw [hL.unique (six_bytes (fits_small h hs))]
 exact hs h
end Go.Proofs.YtdijhifdjbnkfaaGreat.GM
set_option linter.unusedVariables false
namespace Go.Proofs.YtdijhifdjbnkfaaGreat.MM
open Go Go.RowKit
section
variable {α : Type} {C : Codec α}
variable (C)
def OwnX (e:TypeId) (B:Nat) (S:Nat→Prop) (w:World) (v:Value) (es:List α):Prop:=∃ raw,w.ownsRow B e C.size v es.length raw.flatten∧Mean C S w raw es
def SrcX (S:Nat→Prop) (w:World) (v:Value) (ds:List α):Prop :=
 ∃ (p:Option Addr) (cap:Nat) (raw:List (List Value)),v=.slice p ds.length cap∧ds.length≤cap∧(p=none→cap=0)∧Mean C S w raw ds∧(ds=[]∨∃ b off,p=some ⟨b,off,none⟩∧∀ j u,raw.flatten[j]? = some u→w.cell? ⟨b,off+j,none⟩=some u)
variable {C}
theorem ROn.src {S:Nat→Prop} {w:World} {v:Value} {ds:List α} (h:ROn C S w v ds):SrcX C S w v ds:=by
 obtain ⟨p,cap,raw,hv,h1,h2,h3,hm,hc⟩:=h
 refine ⟨p,cap,raw,hv,h1,h3,hm,?_⟩
 rcases hc with hc | ⟨b,off,hp,_,_,hc⟩
 ·exact .inl hc
 ·exact .inr ⟨b,off,hp,hc⟩
theorem src_lit {S:Nat→Prop} {w:World} {vs:List Value} {d:α} (e:TypeId) (h:C.on S w vs d):SrcX C S (w.alloc (.cells vs.toArray e)) (.slice (some ⟨w.heap.size,0,none⟩) 1 1) [d]:=by
 refine ⟨_,1,[vs],rfl,Nat.le_refl _,(fun h=>by cases h),⟨rfl,fun i hi hi' => ?_⟩,.inr ⟨w.heap.size,0,rfl,fun j u hj => ?_⟩⟩
 ·obtain rfl:i=0:=(by simpa using hi)
  exact C.keep h (kep_alloc _ _ _) fun _ _ h=>h
 ·rw [List.flatten_singleton] at hj
  have:=lit_cells w vs e j u hj
  rw [add_at] at this
  exact this
theorem OwnX.nil_ (e:TypeId) (B:Nat) (S:Nat→Prop) (w:World):OwnX C e B S w (.slice none 0 0) []:=⟨[],World.ownsRow_nil _ _ _ _,Mean.nil_ _ _⟩
theorem OwnX.lit0 (e:TypeId) {B:Nat} (S:Nat→Prop) (w:World) (hB:B≤w.heap.size):OwnX C e B S (w.alloc (.cells #[] e)) (.slice (some ⟨w.heap.size,0,none⟩) 0 0) []:=by
 refine ⟨[],?_,Mean.nil_ _ _⟩
 have:=World.ownsRow_lit (e:=e) (base:=B) (size:=C.size) w #[] 0 hB (Nat.zero_le _) (by simp)
 simpa using this
theorem OwnX.cells {e:TypeId} {B:Nat} {S:Nat→Prop} {w:World} {v:Value} {es:List α} (h:OwnX C e B S w v es) {g:Nat} (hg:v.ownBlock=some g):B≤g∧g<w.heap.size∧∃ cur fr,w.heap[g]? = some (.cells cur e fr):=by
 obtain ⟨raw,h1,_⟩:=h
 exact ⟨(own_cells h1 hg).1,(World.ownsRow.lt h1 g hg).2,(own_cells h1 hg).2⟩
theorem OwnX.keep {e:TypeId} {B:Nat} {S T:Nat→Prop} {w w':World} {v:Value} {es:List α} (h:OwnX C e B S w v es) (hk:Kep T w w') (hS:∀ b,b<w.heap.size→S b→T b) (hg:∀ g,v.ownBlock=some g→T g):OwnX C e B S w' v es:=by
 obtain ⟨raw,h1,h2⟩:=h
 refine ⟨raw,own_row_kep h1 hk hg,h2.1,fun i hi hi' => ?_⟩
 exact C.keep (C.keep (h2.2 i hi hi') (Kep.refl _ _) (T:=fun b=>S b∧b<w.heap.size) fun b hb hs=>⟨hs,hb⟩) (hk.mono' (T:=fun b=>S b∧b<w.heap.size) fun b hb hs=>hS b hb hs.1) fun b hb hs=>hs.1
theorem OwnX.weak {e:TypeId} {B:Nat} {S T:Nat→Prop} {w:World} {v:Value} {es:List α} (h:OwnX C e B S w v es) (hT:∀ b,b<w.heap.size→S b→T b):OwnX C e B T w v es:=by
 obtain ⟨raw,h1,h2⟩:=h
 exact ⟨raw,h1,h2.keep (Kep.refl _ _) hT⟩
theorem OwnX.alloc {e:TypeId} {B:Nat} {S:Nat→Prop} {w:World} {v:Value} {es:List α} (h:OwnX C e B S w v es) (o:Obj):OwnX C e B S (w.alloc o) v es:=h.keep (kep_alloc (fun _=>True) w o) (fun _ _ _=>trivial) (fun _ _=>trivial)
theorem OwnX.ron {e:TypeId} {B:Nat} {S T:Nat→Prop} {w:World} {v:Value} {es:List α} (h:OwnX C e B S w v es) (h1:∀ g,v.ownBlock=some g→T g) (h2:∀ b,b<w.heap.size→S b→T b):ROn C T w v es:=by
 obtain ⟨raw,ho,hm⟩:=h
 rcases ho.2 with ⟨rfl,h0⟩ | ⟨g,cap,cur,rfl,hg,hh,hnc,hmx,hs,ht⟩
 ·have:es=[]:=List.eq_nil_of_length_eq_zero h0
  subst this
  exact ROn.nil_ _ _
 ·refine ⟨some ⟨g,0,none⟩,cap,raw,rfl,hnc,hmx,(fun h=>by cases h),hm.keep (Kep.refl _ _) h2,.inr ⟨g,0,rfl,(Array.getElem?_eq_some_iff.1 hh).1,h1 g rfl,fun j u hj => ?_⟩⟩
  have:=Lib.cells_of_row hh (es.length*C.size) j u (by rw [ht];exact hj)
  rw [add_at] at this
  exact this
theorem OwnX.any {e:TypeId} {B:Nat} {S:Nat→Prop} {w:World} {v:Value} {es:List α} (h:OwnX C e B S w v es):RAny C w v es:=h.ron (fun _ _=>trivial) (fun _ _ _=>trivial)
theorem wpList_append_x {P:Program} {T e:TypeId} {bytes:Nat} (E:Elem C P T e bytes) {S:Nat→Prop} {w:World} {ops:Array Oper} {rest:List Oper} {o:Oper} {a:Act} {Q:Exit→Act→World→Prop} (hgd:o.guard=none) (s x:Operand)
  (ho:o.op=.call { callee:=.builtin .append,args:=#[s,x],argTypes:=#[T,T] }) (B:Nat) (v:Value) (es:List α) (hs:a.eval s=v) (hown:OwnX C e B S w v es) (hS:∀ b,b<w.heap.size→S b→Apt e B w b)
  (src:Value) (ds:List α) (hx:a.eval x=src) (hr:SrcX C S w src ds) (hlen:es.length+ds.length≤maxLen) (hby:(es.length+ds.length)*bytes≤140737488355328) (hbase:B≤w.heap.size)
  (h:∀ v' w',OwnX C e B S w' v' (es++ds)→Below B w w'→Kep (fun k=>v.ownBlock≠some k) w w'→wpList P ops Q rest (a.put o.dst v') w'):wpList P ops Q (o::rest) a w:=by
 obtain ⟨p,cap,raw,rfl,h1,h3,hm,hc⟩:=hr
 obtain ⟨i,z,hi,hz,hsz,hbt,hzs⟩:=E.info
 cases p with
 | none =>
   have h0:=h3 rfl
   subst h0
   have hd:ds=[]:=List.eq_nil_of_length_eq_zero (by omega)
   subst hd
   obtain ⟨raw1,g1,g2⟩:=id hown
   refine wpList_append_own_none hgd s x T ho B e i C.size E.under hi v es.length _ hs g1 hx (h v w ?_ (Below.refl _ _) (Kep.refl _ _))
   rw [List.append_nil]
   exact hown
 | some ad =>
   refine wpList_plain hgd fun _ hK => ?_
   obtain ⟨raw1,g1,g2⟩:=hown
   have hlo:∀ k,v.ownBlock=some k→B≤k:=fun k hk=>(World.ownsRow.lt g1 k hk).1
   have hl:raw.flatten.length=ds.length*C.size:=by rw [flat_len hm.lens,hm.1]
   refine wp_append_own _ s x T ho B e i z C.size bytes E.under hi hz hsz hbt hzs C.pos v es.length _ hs g1 ad ds.length cap raw.flatten hx hl ?_ hm.ones hlen hby hbase (fun v' w' h4 hg _ => ?_)
   ·intro j u hj
    rcases hc with hc | ⟨b,off,he,hc⟩
    ·subst hc
     have:raw=[]:=List.eq_nil_of_length_eq_zero (by rw [hm.1];rfl)
     subst this
     simp at hj
    ·obtain rfl:ad=⟨b,off,none⟩:=Option.some.inj he
     rw [add_at]
     exact hc j u hj
   ·have hb:Below B w w':=(Below.refl B _).grown hg hbase hlo
    have hk:Kep (Apt e B w) w w':=kep_grown hg fun k hk hA=>apt_not_own g1 hA hk
    refine hK _ _ (h v' w' ⟨raw1++raw,?_,?_⟩ hb (kep_grown hg fun k hk hne=>hne hk))
    ·rw [List.length_append,List.flatten_append]
     exact h4
    ·have hm2:=g2.append hm
     refine ⟨hm2.1,fun i hi hi' => ?_⟩
     exact C.keep (C.keep (hm2.2 i hi hi') (Kep.refl _ _) (T:=fun b=>S b∧b<w.heap.size) fun b hb hs=>⟨hs,hb⟩) (hk.mono' (T:=fun b=>S b∧b<w.heap.size) fun b hb hs=>hS b hb hs.1) fun b hb hs=>hs.1
theorem wp_append_x1 {P:Program} {T e:TypeId} {bytes:Nat} (E:Elem C P T e bytes) {S:Nat→Prop} {w:World} {o:Oper} {a:Act} {K:Act→World→Prop} {Q:Exit→Act→World→Prop} (s x:Operand)
  (ho:o.op=.call { callee:=.builtin .append,args:=#[s,x],argTypes:=#[T,T] }) (B:Nat) (v:Value) (es:List α) (w0:World) (vs:List Value) (d:α) (hw:w=w0.alloc (.cells vs.toArray e)) (hs:a.eval s=v) (hown:OwnX C e B S w0 v es) (hS:∀ b,b<w0.heap.size→S b→Apt e B w0 b)
  (hd:C.on S w0 vs d) (hx:a.eval x=.slice (some ⟨w0.heap.size,0,none⟩) 1 1) (hlen:es.length+1≤maxLen) (hby:(es.length+1)*bytes≤140737488355328) (hbase:B≤w0.heap.size)
  (h:∀ v' w',OwnX C e B S w' v' (es++[d])→Below B w0 w'→Kep (fun k=>v.ownBlock≠some k) w w'→(∃ g cap,v'=.slice (some ⟨g,0,none⟩) (es.length+1) cap)→K (a.put o.dst v') w'):o.wp P a w K Q:=by
 subst hw
 have hb0:Below w0.heap.size w0 (w0.alloc (.cells vs.toArray e)):=(Below.refl _ _).alloc (Nat.le_refl _) _
 obtain ⟨i,z,hi,hz,hsz,hbt,hzs⟩:=E.info
 obtain ⟨raw,g1,g2⟩:=hown
 have h1:=own_keep (B:=0) g1 hb0
 have hlo:∀ k,v.ownBlock=some k→B≤k:=fun k hk=>(World.ownsRow.lt h1 k hk).1
 have hl:=C.len hd
 refine wp_append_own _ s x T ho B e i z C.size bytes E.under hi hz hsz hbt hzs C.pos v es.length _ hs h1 ⟨w0.heap.size,0,none⟩ 1 1 vs hx (by rw [hl,Nat.one_mul]) (lit_cells w0 vs e) (C.one hd) hlen hby (by simp;omega) (fun v' w' h3 hg _ => ?_)
 have hb:Below B (w0.alloc (.cells vs.toArray e)) w':=(Below.refl B _).grown hg (by simp;omega) hlo
 have hko:Kep (fun k=>v.ownBlock≠some k) w0 w':=(kep_below _ hb0).trans (kep_grown hg fun k hk hne=>hne hk)
 have hm0:Mean C (fun b=>S b∧b<w0.heap.size) w0 (raw++[vs]) (es++[d]):=(g2.append (Mean.single hd)).keep (Kep.refl _ _) fun b hb hs=>⟨hs,hb⟩
 have hm:Mean C (fun b=>S b∧b<w0.heap.size) w' (raw++[vs]) (es++[d]):=hm0.keep (hko.mono' (T:=fun b=>S b∧b<w0.heap.size) fun b hb hs he=>apt_not_own g1 (hS b hb hs.1) he) fun b hb hs=>hs
 refine h v' w' ⟨raw++[vs],?_,hm.keep (Kep.refl _ _) fun b _ hs=>hs.1⟩ ((hb0.mono hbase).trans hb) (kep_grown hg fun k hk hne=>hne hk) ?_
 ·rw [List.length_append,List.flatten_append,List.flatten_singleton]
  exact h3
 ·rcases h3.2 with ⟨_,h0⟩ | ⟨g,cap,cur,hv,_⟩
  ·omega
  ·exact ⟨g,cap,hv⟩
end
end Go.Proofs.YtdijhifdjbnkfaaGreat.MM
set_option linter.unusedVariables false
namespace Go.Proofs.YtdijhifdjbnkfaaGreat.EV
open Go Go.RowKit Go.Proofs.YtdijhifdjbnkfaaGreat.MM Go.Proofs.YtdijhifdjbnkfaaGreat.EM
def fldC:Codec Fld:=cPair cStr cStr
def evC:Codec Ev:=cPair cInt (cRow fldC)
theorem fld_on {S:Nat→Prop} {w:World} {cs:List Value} {f:Fld}:fldC.on S w cs f↔cs=[.string ⟨f.1.toArray⟩,.string ⟨f.2.toArray⟩]:=by
 constructor
 ·rintro ⟨x,y,rfl,hx,hy⟩
  have hx:x=[.string ⟨f.1.toArray⟩]:=hx
  have hy:y=[.string ⟨f.2.toArray⟩]:=hy
  rw [hx,hy];rfl
 ·rintro rfl
  exact ⟨[_],[_],rfl,rfl,rfl⟩
theorem ev_on {S:Nat→Prop} {w:World} {cs:List Value} {e:Ev}:evC.on S w cs e↔∃ v,cs=[.int .i64 e.1,v]∧ROn fldC S w v e.2:=by
 constructor
 ·rintro ⟨x,y,rfl,hx,v,hy,hr⟩
  have hx:x=[.int .i64 e.1]:=hx
  exact ⟨v,by rw [hx,hy];rfl,hr⟩
 ·rintro ⟨v,rfl,hr⟩
  exact ⟨[_],[v],rfl,rfl,v,rfl,hr⟩
theorem fld_at {S:Nat→Prop} {w:World} {p:Option Addr} {n cap:Nat} {fs:List Fld} (h:ROn fldC S w (.slice p n cap) fs) {k:Nat} (hk:k<fs.length) :
  ∃ b off,p=some ⟨b,off,none⟩∧b<w.heap.size∧S b∧w.cell? ⟨b,off+k*2,none⟩=some (.string ⟨fs[k].1.toArray⟩)∧w.cell? ⟨b,off+k*2+1,none⟩=some (.string ⟨fs[k].2.toArray⟩):=by
 obtain ⟨b,off,vs,hp,hlt,hS,hon,hc⟩:=h.at_ hk
 rw [fld_on] at hon
 subst hon
 exact ⟨b,off,hp,hlt,hS,hc 0 _ rfl,hc 1 _ rfl⟩
theorem str_list (l:List UInt8):(⟨l.toArray⟩:ByteArray).data.toList=l:=by simp
theorem str_sz (l:List UInt8):(⟨l.toArray⟩:ByteArray).size=l.length:=by rw [Lib.size_eq]
theorem new_two (w:World) (x y:Value) (t:TypeId):(w.alloc (.cells #[x,y] t)).cell? ⟨w.heap.size,0,none⟩=some x∧(w.alloc (.cells #[x,y] t)).cell? ⟨w.heap.size,1,none⟩=some y:=by
 have h0:=lit_cells w [x,y] t 0 x rfl
 have h1:=lit_cells w [x,y] t 1 y rfl
 rw [add_at] at h0 h1
 exact ⟨h0,h1⟩
end Go.Proofs.YtdijhifdjbnkfaaGreat.EV
set_option linter.unusedVariables false
namespace Go.Proofs.YtdijhifdjbnkfaaGreat.EV
open Go Go.RowKit Go.Proofs.YtdijhifdjbnkfaaGreat.MM Go.Proofs.YtdijhifdjbnkfaaGreat.EM
abbrev Doc:=Int×Ev
def docC:Codec Doc:=cPair cInt evC
theorem doc_on {S:Nat→Prop} {w:World} {cs:List Value} {d:Doc}:docC.on S w cs d↔∃ v,cs=[.int .i64 d.1,.int .i64 d.2.1,v]∧ROn fldC S w v d.2.2:=by
 constructor
 ·rintro ⟨x,y,rfl,hx,hy⟩
  have hx:x=[.int .i64 d.1]:=hx
  obtain ⟨v,hv,hr⟩:=ev_on.1 hy
  exact ⟨v,by rw [hx,hv];rfl,hr⟩
 ·rintro ⟨v,rfl,hr⟩
  exact ⟨[_],[_,_],rfl,rfl,ev_on.2 ⟨v,rfl,hr⟩⟩
theorem fldE:Elem fldC Tryz.prog 55 123 32:=⟨Tryz.underlying55,by
 have h:(Tryz.prog.info? 123).map (fun i=>(i.zero,i.size,i.bytes))=some (some (.agg #[.string ⟨#[]⟩,.string ⟨#[]⟩]),2,32):=by kernel_rfl
 obtain ⟨i,h1,h2,h3,h4⟩:=info_parts h
 exact ⟨i,_,h1,h2,h3,h4,rfl⟩⟩
theorem fld_src {S S':Nat→Prop} {w:World} {v:Value} {fs:List Fld} (h:ROn fldC S w v fs):SrcX fldC S' w v fs:=by
 obtain ⟨p,cap,raw,hv,h1,h3,hm,hc⟩:=ROn.src h
 exact ⟨p,cap,raw,hv,h1,h3,⟨hm.1,fun i hi hi'=>fld_on.2 (fld_on.1 (hm.2 i hi hi'))⟩,hc⟩
theorem docE:Elem docC Tryz.prog 22 59 40:=⟨Tryz.underlying22,by
 have h:(Tryz.prog.info? 59).map (fun i=>(i.zero,i.size,i.bytes))=some (some (.agg #[.int .i64 0,.int .i64 0,.slice none 0 0]),3,40):=by kernel_rfl
 obtain ⟨i,h1,h2,h3,h4⟩:=info_parts h
 exact ⟨i,_,h1,h2,h3,h4,rfl⟩⟩
theorem doc_at {S:Nat→Prop} {w:World} {p:Option Addr} {n cap:Nat} {ds:List Doc} (h:ROn docC S w (.slice p n cap) ds) {k:Nat} (hk:k<ds.length) :
  ∃ b off v,p=some ⟨b,off,none⟩∧b<w.heap.size∧S b∧w.cell? ⟨b,off+k*3,none⟩=some (.int .i64 ds[k].1)∧w.cell? ⟨b,off+k*3+1,none⟩=some (.int .i64 ds[k].2.1)∧w.cell? ⟨b,off+k*3+2,none⟩=some v∧ROn fldC S w v ds[k].2.2:=by
 obtain ⟨b,off,vs,hp,hlt,hS,hon,hc⟩:=h.at_ hk
 rw [doc_on] at hon
 obtain ⟨v,rfl,hr⟩:=hon
 exact ⟨b,off,v,hp,hlt,hS,hc 0 _ rfl,hc 1 _ rfl,hc 2 _ rfl,hr⟩
end Go.Proofs.YtdijhifdjbnkfaaGreat.EV
set_option linter.unusedVariables false
namespace Go.Proofs.YtdijhifdjbnkfaaGreat.EV
open Go Go.RowKit Go.Proofs.YtdijhifdjbnkfaaGreat.MM Go.Proofs.YtdijhifdjbnkfaaGreat.EM
theorem intE:Elem cInt Tryz.prog 69 3 8:=⟨Tryz.underlying69,by
 have h:(Tryz.prog.info? 3).map (fun i=>(i.zero,i.size,i.bytes))=some (some (.int .i64 0),1,8):=by kernel_rfl
 obtain ⟨i,h1,h2,h3,h4⟩:=info_parts h
 exact ⟨i,_,h1,h2,h3,h4,rfl⟩⟩
def IntsOf (w:World) (b:Nat):Prop:=∃ cur fr,w.heap[b]? = some (.cells cur 3 fr)
def trmC:Codec Trm:=cPair cStr (cRow cInt)
theorem trm_on {S:Nat→Prop} {w:World} {cs:List Value} {t:Trm}:trmC.on S w cs t↔∃ v,cs=[.string ⟨t.1.toArray⟩,v]∧ROn cInt S w v t.2:=by
 constructor
 ·rintro ⟨x,y,rfl,hx,v,hy,hr⟩
  have hx:x=[.string ⟨t.1.toArray⟩]:=hx
  exact ⟨v,by rw [hx,hy];rfl,hr⟩
 ·rintro ⟨v,rfl,hr⟩
  exact ⟨[_],[v],rfl,rfl,v,rfl,hr⟩
theorem addP_len_le {α:Type}:∀ (l:List (EM.Tr α)) (s:List UInt8) (p:α),(addP l s p).length≤l.length+1
 | [],s,p=>by simp [addP]
 | t::r,s,p=>by
   have ih:=addP_len_le r s p
   rw [addP]
   split
   ·simp only [List.length_cons];omega
   ·split<;>simp
theorem ints_lit (w:World) (zs:List Int) (hl:zs.length≤maxLen):RAny cInt (w.alloc (.cells (zs.map fun z=>Value.int .i64 z).toArray 3)) (.slice (some ⟨w.heap.size,0,none⟩) zs.length zs.length) zs:=by
 have:=ron_lit (C:=cInt) (S:=fun _=>True) (e:=3) w (zs.map fun z=>[.int .i64 z]) zs hl ⟨by simp,fun i hi hi'=>by rw [List.getElem_map];rfl⟩
 rw [flat_singles] at this
 exact this.any
theorem trm_at {S:Nat→Prop} {w:World} {p:Option Addr} {n cap:Nat} {ts:List Trm} (h:ROn trmC S w (.slice p n cap) ts) {k:Nat} (hk:k<ts.length) :
  ∃ b off v,p=some ⟨b,off,none⟩∧b<w.heap.size∧S b∧w.cell? ⟨b,off+k*2,none⟩=some (.string ⟨ts[k].1.toArray⟩)∧w.cell? ⟨b,off+k*2+1,none⟩=some v∧ROn cInt S w v ts[k].2:=by
 obtain ⟨b,off,vs,hp,hlt,hS,hon,hc⟩:=h.at_ hk
 rw [trm_on] at hon
 obtain ⟨v,rfl,hr⟩:=hon
 exact ⟨b,off,v,hp,hlt,hS,hc 0 _ rfl,hc 1 _ rfl,hr⟩
def RNew (B:Nat) (w:World) (v:Value) (T:List Trm):Prop:=ROn trmC (fun b=>B≤b) w v T
theorem RNew.below {B:Nat} {w w':World} {v:Value} {T:List Trm} (h:RNew B w v T) (hb:Below w.heap.size w w'):RNew B w' v T:=ROn.keep h (kep_below _ hb) fun _ _ h=>h
def TermsNew (T:List Trm) (w:World) (e:Ending) (w':World):Prop:=∃ u,e=.returned u∧RNew w.heap.size w' u T∧Below w.heap.size w w'
end Go.Proofs.YtdijhifdjbnkfaaGreat.EV
set_option linter.unusedVariables false
namespace Go.Proofs.YtdijhifdjbnkfaaGreat.DT
open Go Go.RowKit Go.Proofs.YtdijhifdjbnkfaaGreat.MM Go.Proofs.YtdijhifdjbnkfaaGreat.DM
open Go.Proofs.YtdijhifdjbnkfaaGreat.EM (lessL)
def entC:Codec Ent:=cPair cStr (cPair cInt (cPair cInt cInt))
theorem ent_size:entC.size=4:=rfl
def entV (x:Ent):Value:=.agg #[.string ⟨x.1.toArray⟩,.int .i64 x.2.1,.int .i64 x.2.2.1,.int .i64 x.2.2.2]
theorem ent_on {S:Nat→Prop} {w:World} {cs:List Value} {x:Ent}:entC.on S w cs x↔cs=[.string ⟨x.1.toArray⟩,.int .i64 x.2.1,.int .i64 x.2.2.1,.int .i64 x.2.2.2]:=by
 constructor
 ·rintro ⟨a,b,rfl,ha,c,d,rfl,hc,e,f,rfl,he,hf⟩
  have ha:a=[.string ⟨x.1.toArray⟩]:=ha
  have hc:c=[.int .i64 x.2.1]:=hc
  have he:e=[.int .i64 x.2.2.1]:=he
  have hf:f=[.int .i64 x.2.2.2]:=hf
  rw [ha,hc,he,hf];rfl
 ·rintro rfl
  exact ⟨[_],[_,_,_],rfl,rfl,[_],[_,_],rfl,rfl,[_],[_],rfl,rfl,rfl⟩
theorem ent_at {S:Nat→Prop} {w:World} {p:Option Addr} {n cap:Nat} {l:List Ent} (h:ROn entC S w (.slice p n cap) l) {k:Nat} (hk:k<l.length) :
  ∃ b off,p=some ⟨b,off,none⟩∧b<w.heap.size∧S b∧w.cell? ⟨b,off+k*4,none⟩=some (.string ⟨l[k].1.toArray⟩)∧w.cell? ⟨b,off+k*4+1,none⟩=some (.int .i64 l[k].2.1) ∧
    w.cell? ⟨b,off+k*4+2,none⟩=some (.int .i64 l[k].2.2.1)∧w.cell? ⟨b,off+k*4+3,none⟩=some (.int .i64 l[k].2.2.2):=by
 obtain ⟨b,off,vs,hp,hlt,hS,hon,hc⟩:=h.at_ hk
 rw [ent_on] at hon
 subst hon
 exact ⟨b,off,hp,hlt,hS,hc 0 _ rfl,hc 1 _ rfl,hc 2 _ rfl,hc 3 _ rfl⟩
theorem str_list (l:List UInt8):(⟨l.toArray⟩:ByteArray).data.toList=l:=by simp
theorem str_sz (l:List UInt8):(⟨l.toArray⟩:ByteArray).size=l.length:=by rw [Lib.size_eq]
def nilX:Ent:=([],0,0,0)
def findD (l:List Ent) (t:List UInt8):Option Ent:=l.find? fun x=>decide (x.1=t)
def hasP (p:List UInt8) (x:Ent):Bool:=decide (p.length≤x.1.length)&&decide (x.1.take p.length=p)
def prefD (l:List Ent) (p:List UInt8):List Ent:=l.filter (hasP p)
def floorD (l:List Ent) (t:List UInt8):Nat:=(l.filter fun x=>lessL x.1 t).length
theorem floorD_le (l:List Ent) (t:List UInt8):floorD l t≤l.length:=List.length_filter_le _ _
end Go.Proofs.YtdijhifdjbnkfaaGreat.DT
set_option linter.unusedVariables false
namespace Go.Proofs.YtdijhifdjbnkfaaGreat.MM
open Go Go.RowKit
def Four (w:World) (g:Nat) (t:TypeId) (a b c d:Value):Prop:=w.heap[g]? = some (.cells #[a,b,c,d] t (0,0))
section
variable {w w' : World} {g : Nat} {t : TypeId} {a b c d : Value}
theorem Four.lt (h:Four w g t a b c d):g<w.heap.size:=(Array.getElem?_eq_some_iff.1 h).1
theorem Four.c0 (h:Four w g t a b c d):w.cell? ⟨g,0,none⟩=some a:=by rw [cell_of_row w g 0 _ _ _ h];rfl
theorem Four.c1 (h:Four w g t a b c d):w.cell? ⟨g,1,none⟩=some b:=by rw [cell_of_row w g 1 _ _ _ h];rfl
theorem Four.c2 (h:Four w g t a b c d):w.cell? ⟨g,2,none⟩=some c:=by rw [cell_of_row w g 2 _ _ _ h];rfl
theorem Four.c3 (h:Four w g t a b c d):w.cell? ⟨g,3,none⟩=some d:=by rw [cell_of_row w g 3 _ _ _ h];rfl
theorem Four.fr (h:Four w g t a b c d) (i:Nat):w.frozen? ⟨g,i,none⟩=false:=frozen_of_row w g i _ _ h
theorem Four.s0 (h:Four w g t a b c d) (x:Value):Four (w.setCell ⟨g,0,none⟩ x) g t x b c d:=heap_setCell_same w g 0 _ _ x h
theorem Four.s1 (h:Four w g t a b c d) (x:Value):Four (w.setCell ⟨g,1,none⟩ x) g t a x c d:=heap_setCell_same w g 1 _ _ x h
theorem Four.s2 (h:Four w g t a b c d) (x:Value):Four (w.setCell ⟨g,2,none⟩ x) g t a b x d:=heap_setCell_same w g 2 _ _ x h
theorem Four.s3 (h:Four w g t a b c d) (x:Value):Four (w.setCell ⟨g,3,none⟩ x) g t a b c x:=heap_setCell_same w g 3 _ _ x h
def set4 (w:World) (g:Nat) (x y z u:Value):World:=(((w.setCell ⟨g,0,none⟩ x).setCell ⟨g,1,none⟩ y).setCell ⟨g,2,none⟩ z).setCell ⟨g,3,none⟩ u
theorem Four.set (h:Four w g t a b c d) (x y z u:Value):Four (set4 w g x y z u) g t x y z u:=(((h.s0 x).s1 y).s2 z).s3 u
theorem Four.keep {S:Nat→Prop} (h:Four w g t a b c d) (hk:Kep S w w') (hS:S g):Four w' g t a b c d:=(hk.block g h.lt hS).trans h
theorem Four.below {B:Nat} (h:Four w g t a b c d) (hb:Below B w w') (hg:g<B):Four w' g t a b c d:=(hb.block g hg).trans h
theorem four_new (w:World) (t:TypeId) (a b c d:Value):Four (w.alloc (.cells #[a,b,c,d] t)) w.heap.size t a b c d:=heap_alloc_new _ _
theorem Four.cells (h:Four w g t a b c d):w.cell? ⟨g,0,none⟩=some a∧w.cell? ⟨g,1,none⟩=some b∧w.cell? ⟨g,2,none⟩=some c∧w.cell? ⟨g,3,none⟩=some d:=⟨h.c0,h.c1,h.c2,h.c3⟩
theorem Four.all (h:Four w g t a b c d) (x y z:Value) :
  w.frozen? ⟨g,0,none⟩=false∧w.frozen? ⟨g,1,none⟩=false∧w.frozen? ⟨g,2,none⟩=false∧w.frozen? ⟨g,3,none⟩=false ∧
  ((w.setCell ⟨g,0,none⟩ x).cell? ⟨g,1,none⟩=some b∧(w.setCell ⟨g,0,none⟩ x).frozen? ⟨g,1,none⟩=false) ∧
  (((w.setCell ⟨g,0,none⟩ x).setCell ⟨g,1,none⟩ y).cell? ⟨g,2,none⟩=some c∧((w.setCell ⟨g,0,none⟩ x).setCell ⟨g,1,none⟩ y).frozen? ⟨g,2,none⟩=false) ∧
  ((((w.setCell ⟨g,0,none⟩ x).setCell ⟨g,1,none⟩ y).setCell ⟨g,2,none⟩ z).cell? ⟨g,3,none⟩=some d∧(((w.setCell ⟨g,0,none⟩ x).setCell ⟨g,1,none⟩ y).setCell ⟨g,2,none⟩ z).frozen? ⟨g,3,none⟩=false) :=
 ⟨h.fr 0,h.fr 1,h.fr 2,h.fr 3,⟨(h.s0 x).c1,(h.s0 x).fr 1⟩,⟨((h.s0 x).s1 y).c2,((h.s0 x).s1 y).fr 2⟩,⟨(((h.s0 x).s1 y).s2 z).c3,(((h.s0 x).s1 y).s2 z).fr 3⟩⟩
theorem kep_set4 {g:Nat} (x y z u:Value):Kep (fun b=>b≠g) w (set4 w g x y z u) :=
 (((kep_set (fun h=>h rfl) x).trans (kep_set (fun h=>h rfl) y)).trans (kep_set (fun h=>h rfl) z)).trans (kep_set (fun h=>h rfl) u)
end
section
variable {P : Program} {fn : Func} {t : TypeId} {ty : TypeDesc}
theorem results_four1 {p:Tmp} (h:fn.results=#[.cell p t]) (hu:P.underlying t=some ty) (hd:(match ty with | .struct _ | .array _ _=>true | _=>false)=true) (hi:(P.info? t).map (·.size)=some 4) (tmps:Array Value) (w:World) (g:Nat) (a b c d:Value)
  (hp:tmps.getD p undef=.pointer (some ⟨g,0,none⟩)) (hg:Four w g t a b c d):(results fn tmps).run P w=.ok (.agg #[a,b,c,d]) w:=by
 have hp':tmps[p]?.getD undef=.pointer (some ⟨g,0,none⟩):=by simpa using hp
 have hl:=run_loadVar_row (P:=P) w g t t _ (0,0) ty hg hu hd hi
 simp [results,h,hp',asAddr,hl]
theorem results_four2 {p u:Tmp} (h:fn.results=#[.cell p t,.tmp u]) (hu:P.underlying t=some ty) (hd:(match ty with | .struct _ | .array _ _=>true | _=>false)=true) (hi:(P.info? t).map (·.size)=some 4) (tmps:Array Value) (w:World) (g:Nat) (a b c d:Value)
  (hp:tmps.getD p undef=.pointer (some ⟨g,0,none⟩)) (hg:Four w g t a b c d):(results fn tmps).run P w=.ok (.tuple #[.agg #[a,b,c,d],tmps.getD u undef]) w:=by
 have hp':tmps[p]?.getD undef=.pointer (some ⟨g,0,none⟩):=by simpa using hp
 have hl:=run_loadVar_row (P:=P) w g t t _ (0,0) ty hg hu hd hi
 simp [results,h,hp',asAddr,hl]
end
end Go.Proofs.YtdijhifdjbnkfaaGreat.MM
