import Derived.Test.YtdijhifdjbnkfaaGreatZB5
import Derived.Test.YtdijhifdjbnkfaaGreatProg
import Derived.Test.YtdijhifdjbnkfaaGreatZB4
import Derived.WalkKit
import Derived.Below
import Derived.Lib.Hide
import Derived.LoopTactic
import Derived.Outline
set_option linter.unusedVariables false
set_option linter.unusedSimpArgs false
namespace Go.Proofs.YtdijhifdjbnkfaaGreat.GM
open Go Go.Proofs.YtdijhifdjbnkfaaGreat.VM
open Go.Proofs.YtdijhifdjbnkfaaGreat.TK (wordsB wordsB_count)
open Go.Proofs.YtdijhifdjbnkfaaGreat.EM (Ev Tr Trm Fld Rising posOf termsE termsF placesT foldP foldP_perm places_len wordsN sizeF bytesF bytesE addP bytesF_cons checkE)
open Go.Proofs.YtdijhifdjbnkfaaGreat.PM (Post isL)
open Go.Proofs.YtdijhifdjbnkfaaGreat.DM (Ent encD areD)
open Go.Proofs.YtdijhifdjbnkfaaGreat.SM (Doc isS encS rangeB rangeB_next rangeB_self oneB oneB_at isS_iff noDoc encS_len)
open Go.Proofs.YtdijhifdjbnkfaaGreat.RM (rowsE rowsT pairsP pairsP_append termsE_ok termsE_bad termsE_ne rowsE_len rowsE_count)
open Go.Proofs.YtdijhifdjbnkfaaGreat.BM (roomL roomL_le)
def sumW (l:List Doc):Nat:=(l.map fun d=>sizeF d.2.2).sum
theorem sumW_next {l:List Doc} {k:Nat} (hk:k<l.length):sumW (l.take (k+1))=sumW (l.take k)+sizeF l[k].2.2:=by
 unfold sumW
 rw [List.take_succ_eq_append_getElem hk,List.map_append,List.sum_append]
 simp
theorem sumW_take (l:List Doc) (k:Nat):sumW (l.take k)≤sumW l:=by
 have:sumW l=sumW (l.take k)+sumW (l.drop k):=by
  unfold sumW
  rw [← List.sum_append,← List.map_append,List.take_append_drop]
 omega
theorem sizeF_cons (f:Fld) (r:List Fld):sizeF (f::r)=f.1.length+f.2.length+sizeF r:=by simp [sizeF]
theorem bytesF_ge:∀ fs:List Fld,sizeF fs≤(bytesF fs).length
 | []=>by simp [sizeF]
 | f::r=>by
   have:=bytesF_ge r
   rw [bytesF_cons,sizeF_cons]
   unfold textL
   simp only [List.length_append]
   omega
theorem bytesE_ge (e:Ev):sizeF e.2≤(bytesE e).length:=by
 have:=bytesF_ge e.2
 unfold bytesE
 simp only [List.length_append]
 omega
theorem rangeB_ge (l:List Doc):∀ k,k≤l.length→sumW (l.take k)≤(rangeB l 0 k).length
 | 0,_=>by simp [sumW]
 | k+1,hk=>by
   have ih:=rangeB_ge l k (by omega)
   have h1:=bytesE_ge l[k].2
   rw [rangeB_next (Nat.zero_le _),sumW_next (by omega),List.length_append,oneB_at (by omega),List.length_append]
   omega
theorem sumW_enc (l:List Doc):sumW l≤(SM.encS l).length:=by
 have:=rangeB_ge l l.length (Nat.le_refl _)
 rw [List.take_length] at this
 unfold SM.encS
 simp only [List.length_append]
 omega
theorem wordsN_le:∀ fs:List Fld,wordsN fs≤sizeF fs
 | []=>by simp [wordsN]
 | f::r=>by
   have h1:=wordsN_le r
   have h2:=wordsB_count f.2
   have e:wordsN (f::r)=(wordsB f.2).length+wordsN r:=by simp [wordsN]
   rw [e,sizeF_cons]
   omega
theorem places_cons {α:Type} (t:Tr α) (T:List (Tr α)):(placesT (t::T)).length=t.2.length+(placesT T).length:=by simp [placesT]
theorem len_places {α:Type}:∀ {T:List (Tr α)},(∀ t∈T,t.2≠[])→T.length≤(placesT T).length
 | [],_=>by simp
 | t::T,h=>by
   have h1:=len_places (T:=T) fun u hu=>h u (by simp [hu])
   have h2:=List.length_pos_iff.2 (h t (by simp))
   rw [places_cons,List.length_cons]
   omega
theorem termsE_places (e:Ev):(placesT (termsE e)).length≤wordsN e.2:=by
 by_cases h:checkE e=0
 ·rw [termsE_ok h,places_len];exact Nat.le_refl _
 ·rw [termsE_bad h];simp [placesT]
def costP (p:Post):Nat:=50+10*p.2.length
def costs (ps:List Post):Nat:=(ps.map costP).sum
theorem costs_cons (p:Post) (ps:List Post):costs (p::ps)=costP p+costs ps:=by simp [costs]
theorem costs_append (a b:List Post):costs (a++b)=costs a+costs b:=by simp [costs]
theorem costs_perm {a b:List Post} (h:a.Perm b):costs a=costs b:=(h.map costP).sum_nat
theorem costs_doc (i:Int):∀ (T:List Trm),(∀ t∈T,t.2≠[])→costs ((T.map (fun t=>((t.1,(i,t.2)):List UInt8×Post))).map (·.2))≤60*(placesT T).length
 | [],_=>by simp [costs]
 | t::T,h=>by
   have h1:=costs_doc i T fun u hu=>h u (by simp [hu])
   have h2:=List.length_pos_iff.2 (h t (by simp))
   rw [List.map_cons,List.map_cons,costs_cons,places_cons]
   have e:costP (i,t.2)=50+10*t.2.length:=rfl
   rw [e]
   omega
theorem pairs_costs:∀ (es:List Ev) (i:Int),costs ((pairsP i (es.map termsE)).map (·.2))≤60*(es.map fun e=>sizeF e.2).sum
 | [],i=>by simp [pairsP,costs]
 | e::es,i=>by
   have h1:=pairs_costs es (i+1)
   have h2:=costs_doc i (termsE e) (termsE_ne e)
   have h3:=termsE_places e
   have h4:=wordsN_le e.2
   rw [List.map_cons,pairsP,List.map_append,costs_append,List.map_cons,List.sum_cons]
   omega
theorem costs_len (ps:List Post):50*ps.length≤costs ps:=by
 induction ps with
 | nil=>simp [costs]
 | cons p ps ih=>rw [costs_cons,List.length_cons];unfold costP;omega
theorem pairsP_len (es:List Ev):(pairsP 0 (es.map termsE)).length≤2*(es.map fun e=>sizeF e.2).sum:=by
 have h1:=pairs_costs es 0
 have h2:=costs_len ((pairsP 0 (es.map termsE)).map (·.2))
 rw [List.length_map] at h2
 omega
theorem places_flat {rows:List (Tr Post)}:(rows.map fun r=>costs r.2).sum=costs (placesT rows):=by
 induction rows with
 | nil=>rfl
 | cons r rows ih =>
   have e:placesT (r::rows)=r.2++placesT rows:=by simp [placesT]
   rw [List.map_cons,List.sum_cons,ih,e,costs_append]
theorem sumL_costs:∀ ps:List Post,40*ps.length+10*PM.sumL ps+10*ps.length=costs ps
 | []=>by simp [PM.sumL,costs]
 | p::ps=>by
   have ih:=sumL_costs ps
   rw [PM.sumL,costs_cons,List.length_cons]
   unfold costP
   omega
theorem encL_costs {ps:List Post} (h:ps≠[]):(PM.encL ps).length≤costs ps:=by
 have h0:=List.length_pos_iff.2 h
 have h1:=PM.bodyL_len ps 0
 have h2:=PM.headsR_len ps (PM.cnt ps.length) 0
 have h3:=(bytesL_length ps.length).2
 have h4:=sumL_costs ps
 have h5:PM.cnt ps.length≤ps.length:=by unfold PM.cnt;omega
 unfold PM.encL
 simp only [List.length_append]
 omega
theorem postsG_costs:∀ {rows:List (Tr Post)},(∀ r∈rows,r.2≠[])→(postsG rows).length≤(rows.map fun r=>costs r.2).sum
 | [],_=>by simp [postsG]
 | r::rows,h=>by
   have h1:=postsG_costs (rows:=rows) fun u hu=>h u (by simp [hu])
   have h2:=encL_costs (h r (by simp))
   have e:postsG (r::rows)=PM.encL r.2++postsG rows:=by simp [postsG]
   rw [e,List.length_append,List.map_cons,List.sum_cons]
   omega
theorem rows_costs (l:List Doc):costs (placesT (rowsG l))≤60*sumW l:=by
 have h1:(placesT (rowsG l)).Perm (placesT []++(pairsP 0 ((evs l).map termsE)).map (·.2)):=foldP_perm _ []
 rw [costs_perm h1]
 have h2:=pairs_costs (evs l) 0
 have e:((evs l).map fun e=>sizeF e.2).sum=sumW l:=by unfold evs sumW;rw [List.map_map];rfl
 rw [e] at h2
 simpa [placesT] using h2
theorem rows_posts (l:List Doc):(postsG (rowsG l)).length≤60*sumW l:=by
 have h1:=postsG_costs (rows:=rowsG l) (RM.rowsT_ne _)
 rw [places_flat] at h1
 exact Nat.le_trans h1 (rows_costs l)
theorem costs_some:∀ {ps:List Post},(∀ p∈ps,p.2≠[])→60*ps.length≤costs ps
 | [],_=>by simp
 | p::ps,h=>by
   have h1:=costs_some (ps:=ps) fun q hq=>h q (by simp [hq])
   have h2:=List.length_pos_iff.2 (h p (by simp))
   rw [costs_cons,List.length_cons]
   unfold costP
   omega
theorem rows_count {l:List Doc} (h:isS l=true):(rowsG l).length≤sumW l:=by
 have h1:=len_places (T:=rowsG l) (RM.rowsT_ne _)
 have h2:=costs_some (ps:=placesT (rowsG l)) fun p hp=>by
  obtain ⟨r,hr,hp⟩:=List.mem_flatMap.1 hp
  exact (((PM.isL_iff _).1 (rows_may h r hr).1).2 p hp).1
 have h3:=rows_costs l
 omega
theorem mem_le_sum:∀ {l:List Nat} {x:Nat},x∈l→x≤l.sum
 | y::l,x,h=>by
   rw [List.sum_cons]
   rcases List.mem_cons.1 h with rfl | h
   ·omega
   ·have:=mem_le_sum h;omega
theorem row_costs {l:List Doc} {r:Tr Post} (h:r∈rowsG l):costs r.2≤60*sumW l:=by
 refine Nat.le_trans ?_ (rows_costs l)
 rw [← places_flat]
 exact mem_le_sum (List.mem_map.2 ⟨r,h,rfl⟩)
theorem row_sum {l:List Doc} {r:Tr Post} (h:r∈rowsG l):r.2.length≤2*sumW l∧PM.sumL r.2≤6*sumW l:=by
 have h1:=row_costs h
 have h2:=sumL_costs r.2
 omega
theorem entB_len (ahead:List UInt8) (x:Ent):(DM.entB ahead x).length≤50+x.1.length:=by
 have b1:=(bytesL_length (DM.sharedL ahead x.1)).2
 have b2:=(bytesL_length (x.1.drop (DM.sharedL ahead x.1)).length).2
 have b3:=(bytesL_length x.2.1.toNat).2
 have b4:=(bytesL_length x.2.2.1.toNat).2
 have b5:=(bytesL_length x.2.2.2.toNat).2
 unfold DM.entB textL
 simp only [List.length_append] at *
 rw [List.length_drop] at *
 omega
theorem blockB_len:∀ (ahead:List UInt8) (l:List Ent),(∀ x∈l,x.1.length≤65)→(DM.blockB ahead l).length≤115*l.length
 | _,[],_=>by simp [DM.blockB]
 | a,x::l,h=>by
   have h1:=blockB_len x.1 l fun y hy=>h y (by simp [hy])
   have h2:=entB_len a x
   have h3:=h x (by simp)
   rw [DM.blockB,List.length_append,List.length_cons]
   omega
theorem chunkB_len (l:List Ent) (h:∀ x∈l,x.1.length≤65) (j:Nat):(DM.chunkB l j).length≤10+115*16:=by
 have h1:=blockB_len [] (DM.chunk l j) fun x hx=>h x (List.mem_of_mem_drop (List.mem_of_mem_take hx))
 have h2:(DM.chunk l j).length≤16:=by unfold DM.chunk;rw [List.length_take];omega
 have h3:=(bytesL_length (DM.blockB [] (DM.chunk l j)).length).2
 unfold DM.chunkB
 rw [List.length_append]
 omega
theorem flatMap_le {α β:Type} {f:α→List β} {m:Nat}:∀ {l:List α},(∀ x∈l,(f x).length≤m)→(l.flatMap f).length≤m*l.length
 | [],_=>by simp
 | x::l,h=>by
   have h1:=flatMap_le (l:=l) fun y hy=>h y (by simp [hy])
   have h2:=h x (by simp)
   rw [List.flatMap_cons,List.length_append,List.length_cons,Nat.mul_succ]
   omega
theorem encD_short {l:List Ent} (h:∀ x∈l,x.1.length≤65):(encD l).length≤10+1850*((l.length+15) / 16):=by
 have h1:=flatMap_le (l:=List.range (DM.chunksN l)) (f:=DM.chunkB l) (m:=1850) fun j _=>chunkB_len l h j
 have h2:=(bytesL_length l.length).2
 rw [List.length_range] at h1
 unfold encD DM.chunksB
 rw [List.length_append,List.drop_zero]
 unfold DM.chunksN at h1 ⊢
 omega
theorem ents_short (l:List Doc):∀ x∈entsG 0 (rowsG l),x.1.length≤65:=fun x hx=>by
 have h1:x.1∈(entsG 0 (rowsG l)).map (·.1):=List.mem_map.2 ⟨x,hx,rfl⟩
 rw [entsG_terms] at h1
 obtain ⟨r,hr,e⟩:=List.mem_map.1 h1
 rw [← e]
 exact (rowsE_len hr).2
theorem timesG_len:∀ (l:List Doc) (z:Int),(timesG z l).length≤10*l.length
 | [],_=>by simp [timesG]
 | d::l,z=>by
   have h1:=timesG_len l d.2.1
   have h2:=(bytesL_length (zig (IntKind.i64.wrap (d.2.1 - z)))).2
   rw [timesG,List.length_append,List.length_cons]
   unfold intL
   omega
theorem footB_len (p:Foot):(footB p).length≤50:=by
 have b1:=(bytesL_length (zig p.1)).2
 have b2:=(bytesL_length (zig p.2.1)).2
 have b3:=(bytesL_length (zig p.2.2.1)).2
 have b4:=(bytesL_length (zig p.2.2.2.1)).2
 have b5:=(bytesL_length (zig (p.2.2.2.2:Int))).2
 unfold footB intL
 simp only [List.length_append]
 omega
def Small (l:List Doc):Prop:=isS l=true→(SM.encS l).length≤100000
structure Sized (l:List Doc):Prop where
 docs:l.length≤65536∧l.length<100000
 texts:sumW l≤100000
 rows:(rowsG l).length≤100000
 posts:(postsG (rowsG l)).length≤6000000
 pairs:(pairsP 0 ((evs l).map termsE)).length≤200000
 row:∀ r∈rowsG l,r.2.length≤65536∧PM.sumL r.2≤600000∧r.1.length≤65∧isL r.2=true∧r.2≠[]
 are:areD (entsG 0 (rowsG l))=true
 sects:∀ s∈sectsG l,s.length≤16777216 - 16
theorem sized {l:List Doc} (h:isS l=true) (hs:Small l):Sized l:=by
 have hM:=hs h
 have h0:=encS_len h
 have h1:=sumW_enc l
 have h2:=rows_count h
 have h3:=rows_posts l
 have hn:=(isS_iff.1 h).1
 have e:((evs l).map fun e=>sizeF e.2).sum=sumW l:=by unfold evs sumW;rw [List.map_map];rfl
 have h4:=pairsP_len (evs l)
 rw [e] at h4
 have hA:=ents_are h (by omega) (by omega)
 refine ⟨by omega,by omega,by omega,by omega,by omega,fun r hr => ?_,hA,fun s hm => ?_⟩
 ·have h5:=row_sum hr
  have h6:=rows_may h r hr
  exact ⟨rowsE_count (by unfold evs;rw [List.length_map];exact hn) hr,by omega,(rowsE_len hr).2,h6.1,h6.2⟩
 ·have h5:=timesG_len l 0
  have h6:=encD_short (ents_short l)
  rw [entsG_len] at h6
  have h7:=filterG_len (rowsG l)
  have h8:=(roomL_le (rowsG l).length).2
  have h9:=footB_len (footG l)
  unfold sectsG at hm
  simp only [List.mem_cons,List.not_mem_nil,or_false] at hm
  rcases hm with rfl | rfl | rfl | rfl | rfl | rfl
  ·omega
  ·omega
  ·omega
  ·omega
  ·omega
  ·omega
theorem fits_small {l:List Doc} (h:isS l=true) (hs:Small l):fitsG l=true:=by
 unfold fitsG
 rw [List.all_eq_true]
 intro s hm
 have:=(sized h hs).sects s hm
 rw [decide_eq_true_eq]
 omega
theorem encG_small {l:List Doc} (hs:Small l):encG l=if isS l=true∧l≠[] then (bytesG l,0) else ([],130):=by
 unfold encG
 by_cases h:isS l=true
 ·by_cases h0:l=[]
  ·rw [if_pos (.inr h0),if_neg (fun h=>h.2 h0)]
  ·have hz:=sized h hs
   have h1:=hz.rows
   have h2:=hz.posts
   rw [if_neg (by simp [h,h0]),if_neg,if_pos ⟨h,h0⟩]
   rw [fits_small h hs]
   rintro (h | h | h)
   ·omega
   ·omega
   ·cases h
 ·rw [if_pos (.inl (by simpa using h)),if_neg (fun k=>h k.1)]
end Go.Proofs.YtdijhifdjbnkfaaGreat.GM
namespace Go.Proofs.YtdijhifdjbnkfaaGreat.GM
open Go Go.Proofs.YtdijhifdjbnkfaaGreat.VM
open Go.Proofs.YtdijhifdjbnkfaaGreat.SM (Doc isS encS decS decS_put decS_back FitS)
open Go.Proofs.YtdijhifdjbnkfaaGreat.FM (frameL framesL framesL_cons framesL_nil framesL_append getR restR getR_put getR_back restR_ok frameL_inj getR_err)
def headG:List UInt8:=[76,83,69,71]
structure Six (b:List UInt8) (L:List (List UInt8)):Prop where
 head:b.take 4=headG
 six:L.length=6
 most:∀ p∈L,p.length≤16777216
 told:b.drop 4=framesL L
structure Some6 (b:List UInt8) (ls:List (List UInt8)) (rest:List UInt8):Prop where
 most:∀ p∈ls,p.length≤16777216
 told:b=framesL ls++rest
theorem frames_begin:∀ {ls L:List (List UInt8)} {rest:List UInt8},(∀ p∈ls,p.length≤16777216)→(∀ p∈L,p.length≤16777216)→framesL ls++rest=framesL L→ls.length≤L.length→ls=L.take ls.length∧rest=framesL (L.drop ls.length)
 | [],L,rest,_,_,h,_=>⟨by simp,by simpa [framesL_nil] using h⟩
 | p::ls,[],rest,_,_,_,hl=>absurd hl (by simp)
 | p::ls,q::L,rest,h1,h2,h,hl=>by
   rw [framesL_cons,framesL_cons,List.append_assoc] at h
   obtain ⟨rfl,h9⟩:=frameL_inj (h1 p (by simp)) (h2 q (by simp)) h
   obtain ⟨e1,e2⟩:=frames_begin (fun x hx=>h1 x (List.mem_cons_of_mem _ hx)) (fun x hx=>h2 x (List.mem_cons_of_mem _ hx)) h9 (by simpa using hl)
   rw [List.length_cons,List.take_succ_cons,List.drop_succ_cons]
   exact ⟨by rw [← e1],e2⟩
theorem Some6.start (b:List UInt8):Some6 b [] b:=⟨fun _ h=>by simp at h,by simp [framesL_nil]⟩
theorem Some6.next {b rest p:List UInt8} {ls:List (List UInt8)} {k:Nat} (h:Some6 b ls rest) (hg:getR rest=(p,k,0)):Some6 b (ls++[p]) (restR rest):=by
 obtain ⟨h1,h2,h3⟩:=getR_back hg
 refine ⟨fun q hq => ?_,?_⟩
 ·rcases List.mem_append.1 hq with hq | hq
  ·exact h.most q hq
  ·obtain rfl:=List.mem_singleton.1 hq;exact h1
 ·rw [restR_ok hg,framesL_append,framesL_cons,framesL_nil,List.append_nil,List.append_assoc,h3]
  exact h.told
theorem Some6.odd {b rest:List UInt8} {ls:List (List UInt8)} (h:Some6 (b.drop 4) ls rest) (hk:ls.length<6) (he:(getR rest).2.2≠0) (L:List (List UInt8)):¬ Six b L:=fun hL=>by
 obtain ⟨_,e⟩:=frames_begin h.most hL.most (h.told.symm.trans hL.told) (by have:=hL.six;omega)
 have hd:L.drop ls.length=L[ls.length]'(by have:=hL.six;omega)::L.drop (ls.length+1):=List.drop_eq_getElem_cons (by have:=hL.six;omega)
 rw [hd,framesL_cons] at e
 rw [e,getR_put (hL.most _ (List.getElem_mem _))] at he
 exact he rfl
theorem Some6.more {b rest:List UInt8} {ls:List (List UInt8)} (h:Some6 (b.drop 4) ls rest) (hk:ls.length=6) (he:rest≠[]) (L:List (List UInt8)):¬ Six b L:=fun hL=>by
 obtain ⟨_,e⟩:=frames_begin h.most hL.most (h.told.symm.trans hL.told) (by have:=hL.six;omega)
 rw [hk,← hL.six,List.drop_length,framesL_nil] at e
 exact he e
theorem Some6.all {b:List UInt8} {ls:List (List UInt8)} (hb:b.take 4=headG) (h:Some6 (b.drop 4) ls []) (hk:ls.length=6):Six b ls:=⟨hb,hk,h.most,by rw [h.told,List.append_nil]⟩
theorem Six.unique {b:List UInt8} {L M:List (List UInt8)} (h:Six b L) (k:Six b M):L=M:=by
 obtain ⟨e,_⟩:=frames_begin (rest:=[]) h.most k.most (by rw [List.append_nil,← h.told,k.told]) (by rw [h.six,k.six];exact Nat.le_refl _)
 rw [h.six,← k.six,List.take_length] at e
 exact e
theorem six_bytes {l:List Doc} (h:fitsG l=true):Six (bytesG l) (sectsG l) :=
 ⟨rfl,rfl,fun p hp=>by unfold fitsG at h;rw [List.all_eq_true] at h;exact of_decide_eq_true (h p hp),rfl⟩
theorem six_dec {b:List UInt8} {l:List Doc} (h:decG b=some l):Six b (sectsG l):=by
 obtain ⟨h1,_⟩:=decG_back h
 obtain ⟨_,_,_,_,h5,rfl⟩:=encG_ok h1
 exact six_bytes h5
theorem six_none {b:List UInt8} (h:∀ L,¬ Six b L):decG b=none:=by
 cases hd:decG b with
 | none=>rfl
 | some l=>exact absurd (six_dec hd) (h _)
def docsIn (L:List (List UInt8)):List Doc:=(decS (L.headD [])).getD []
theorem docsIn_fit (L:List (List UInt8)):FitS (docsIn L):=by
 unfold docsIn
 cases h:decS (L.headD []) with
 | none=>intro d hd;simp at hd
 | some l=>exact (decS_back h).2.1
theorem docsIn_sects {l:List Doc} (h:isS l=true) (hf:FitS l):docsIn (sectsG l)=l:=by
 show (decS (SM.encS l)).getD []=l
 rw [decS_put h hf];rfl
theorem open_yes {b:List UInt8} {L:List (List UInt8)} (h:Six b L) (he:encG (docsIn L)=(b,0)):decG b=some (docsIn L)∧L=sectsG (docsIn L):=by
 have hd:=decG_iff.2 ⟨he,docsIn_fit L⟩
 exact ⟨hd,h.unique (six_dec hd)⟩
theorem open_no {b:List UInt8} {L:List (List UInt8)} (h:Six b L) (he:encG (docsIn L)≠(b,0)):decG b=none:=by
 cases hd:decG b with
 | none=>rfl
 | some l =>
   obtain ⟨h1,hf⟩:=decG_back hd
   have e:=h.unique (six_dec hd)
   subst e
   rw [docsIn_sects (encG_ok h1).1 hf] at he
   exact absurd h1 he
theorem docsIn_small {L:List (List UInt8)} (h:(L.headD []).length≤100000):Small (docsIn L):=fun hs=>by
 unfold docsIn at hs ⊢
 cases hd:decS (L.headD []) with
 | none=>exact (by decide +kernel:(SM.encS []).length≤100000)
 | some l =>
   show (SM.encS l).length≤100000
   rw [(decS_back hd).2.2]
   exact h
theorem six_len {b:List UInt8} {L:List (List UInt8)} (h:Six b L):(L.headD []).length≤b.length:=by
 have h6:=h.six
 cases hL:L with
 | nil=>simp
 | cons p r =>
   have e:=congrArg List.length h.told
   rw [hL,framesL_cons,List.length_append,List.length_drop] at e
   have h1:=(FM.frameL_bounds p).1
   show p.length≤b.length
   omega
def OpenSmall (b:List UInt8):Prop:=b.length≤1000000000∧∀ L,Six b L→(L.headD []).length≤100000
theorem openSmall_short {b:List UInt8} (h:b.length≤100000):OpenSmall b:=⟨by omega,fun L hL=>Nat.le_trans (six_len hL) h⟩
theorem bytesG_len {l:List Doc} (h:isS l=true) (hs:Small l):(bytesG l).length≤200000000:=by
 have hz:=sized h hs
 have gen:∀ (ps:List (List UInt8)),(∀ p∈ps,p.length≤16777200)→(framesL ps).length≤16777300*ps.length:=by
  intro ps
  induction ps with
  | nil=>intro _;simp [framesL_nil]
  | cons p ps ih =>
    intro hp
    have h1:=(FM.frameL_bounds p).2
    have h2:=hp p (by simp)
    have h3:=ih fun q hq=>hp q (by simp [hq])
    rw [framesL_cons,List.length_append,List.length_cons]
    omega
 have h1:=gen (sectsG l) hz.sects
 have h2:(sectsG l).length=6:=rfl
 unfold bytesG
 rw [List.length_append,List.length_cons,List.length_cons,List.length_cons,List.length_cons,List.length_nil]
 omega
theorem openSmall_bytes {l:List Doc} (h:isS l=true) (hs:Small l):OpenSmall (bytesG l):=by
 refine ⟨by have:=bytesG_len h hs;omega,fun L hL => ?_⟩
 rw [hL.unique (six_bytes (fits_small h hs))]
 exact hs h
end Go.Proofs.YtdijhifdjbnkfaaGreat.GM
namespace Go.Proofs.YtdijhifdjbnkfaaGreat.UM
open Go.RowKit
def lowNo (k:Nat) (r:Int):Prop:=(1≤k→¬ (65≤r∧r≤90))∧(2≤k→¬ (192≤r∧r≤214))∧(3≤k→¬ (216≤r∧r≤222))∧(4≤k→¬ (913≤r∧r≤929))∧(5≤k→¬ (931≤r∧r≤939))∧(6≤k→¬ (1024≤r∧r≤1039))∧(7≤k→¬ (1040≤r∧r≤1071))
theorem lowNo_zero (r:Int):lowNo 0 r:=by unfold lowNo;omega
theorem lowNo_1 (r:Int) (h:lowNo 0 r) (g:¬ (65≤r∧r≤90)):lowNo 1 r:=by unfold lowNo at *;omega
theorem lowNo_2 (r:Int) (h:lowNo 1 r) (g:¬ (192≤r∧r≤214)):lowNo 2 r:=by unfold lowNo at *;omega
theorem lowNo_3 (r:Int) (h:lowNo 2 r) (g:¬ (216≤r∧r≤222)):lowNo 3 r:=by unfold lowNo at *;omega
theorem lowNo_4 (r:Int) (h:lowNo 3 r) (g:¬ (913≤r∧r≤929)):lowNo 4 r:=by unfold lowNo at *;omega
theorem lowNo_5 (r:Int) (h:lowNo 4 r) (g:¬ (931≤r∧r≤939)):lowNo 5 r:=by unfold lowNo at *;omega
theorem lowNo_6 (r:Int) (h:lowNo 5 r) (g:¬ (1024≤r∧r≤1039)):lowNo 6 r:=by unfold lowNo at *;omega
theorem lowNo_7 (r:Int) (h:lowNo 6 r) (g:¬ (1040≤r∧r≤1071)):lowNo 7 r:=by unfold lowNo at *;omega
theorem lowNo_end (r:Int) (h:lowNo 7 r):lowerZ r=r:=by unfold lowNo at h;unfold lowerZ;(repeat' split)<;>omega
theorem low_hit0 (r:Int) (g:65≤r∧r≤90):lowerZ r=r+32:=by unfold lowerZ;(repeat' split)<;>omega
theorem low_hit1 (r:Int) (g:192≤r∧r≤214):lowerZ r=r+32:=by unfold lowerZ;(repeat' split)<;>omega
theorem low_hit2 (r:Int) (g:216≤r∧r≤222):lowerZ r=r+32:=by unfold lowerZ;(repeat' split)<;>omega
theorem low_hit3 (r:Int) (g:913≤r∧r≤929):lowerZ r=r+32:=by unfold lowerZ;(repeat' split)<;>omega
theorem low_hit4 (r:Int) (g:931≤r∧r≤939):lowerZ r=r+32:=by unfold lowerZ;(repeat' split)<;>omega
theorem low_hit5 (r:Int) (g:1024≤r∧r≤1039):lowerZ r=r+80:=by unfold lowerZ;(repeat' split)<;>omega
theorem low_hit6 (r:Int) (g:1040≤r∧r≤1071):lowerZ r=r+32:=by unfold lowerZ;(repeat' split)<;>omega
def wordNo (k:Nat) (r:Int):Prop:=(1≤k→¬ (48≤r∧r≤57))∧(2≤k→¬ (65≤r∧r≤90))∧(3≤k→¬ (97≤r∧r≤122))∧(4≤k→¬ (192≤r∧r≤214))∧(5≤k→¬ (216≤r∧r≤246))∧(6≤k→¬ (248≤r∧r≤255))∧(7≤k→¬ (913≤r∧r≤929))∧(8≤k→¬ (931≤r∧r≤974))∧(9≤k→¬ (1024≤r∧r≤1119))
theorem wordNo_zero (r:Int):wordNo 0 r:=by unfold wordNo;omega
theorem wordNo_1 (r:Int) (h:wordNo 0 r) (g:¬ (48≤r∧r≤57)):wordNo 1 r:=by unfold wordNo at *;omega
theorem wordNo_2 (r:Int) (h:wordNo 1 r) (g:¬ (65≤r∧r≤90)):wordNo 2 r:=by unfold wordNo at *;omega
theorem wordNo_3 (r:Int) (h:wordNo 2 r) (g:¬ (97≤r∧r≤122)):wordNo 3 r:=by unfold wordNo at *;omega
theorem wordNo_4 (r:Int) (h:wordNo 3 r) (g:¬ (192≤r∧r≤214)):wordNo 4 r:=by unfold wordNo at *;omega
theorem wordNo_5 (r:Int) (h:wordNo 4 r) (g:¬ (216≤r∧r≤246)):wordNo 5 r:=by unfold wordNo at *;omega
theorem wordNo_6 (r:Int) (h:wordNo 5 r) (g:¬ (248≤r∧r≤255)):wordNo 6 r:=by unfold wordNo at *;omega
theorem wordNo_7 (r:Int) (h:wordNo 6 r) (g:¬ (913≤r∧r≤929)):wordNo 7 r:=by unfold wordNo at *;omega
theorem wordNo_8 (r:Int) (h:wordNo 7 r) (g:¬ (931≤r∧r≤974)):wordNo 8 r:=by unfold wordNo at *;omega
theorem wordNo_9 (r:Int) (h:wordNo 8 r) (g:¬ (1024≤r∧r≤1119)):wordNo 9 r:=by unfold wordNo at *;omega
theorem wordNo_end (r:Int) (h:wordNo 9 r):wordZ r=false:=by unfold wordNo at h;unfold wordZ;exact decide_eq_false (by omega)
theorem word_hit0 (r:Int) (g:48≤r∧r≤57):wordZ r=true:=by unfold wordZ;exact decide_eq_true (by omega)
theorem word_hit1 (r:Int) (g:65≤r∧r≤90):wordZ r=true:=by unfold wordZ;exact decide_eq_true (by omega)
theorem word_hit2 (r:Int) (g:97≤r∧r≤122):wordZ r=true:=by unfold wordZ;exact decide_eq_true (by omega)
theorem word_hit3 (r:Int) (g:192≤r∧r≤214):wordZ r=true:=by unfold wordZ;exact decide_eq_true (by omega)
theorem word_hit4 (r:Int) (g:216≤r∧r≤246):wordZ r=true:=by unfold wordZ;exact decide_eq_true (by omega)
theorem word_hit5 (r:Int) (g:248≤r∧r≤255):wordZ r=true:=by unfold wordZ;exact decide_eq_true (by omega)
theorem word_hit6 (r:Int) (g:913≤r∧r≤929):wordZ r=true:=by unfold wordZ;exact decide_eq_true (by omega)
theorem word_hit7 (r:Int) (g:931≤r∧r≤974):wordZ r=true:=by unfold wordZ;exact decide_eq_true (by omega)
theorem word_hit8 (r:Int) (g:1024≤r∧r≤1119):wordZ r=true:=by unfold wordZ;exact decide_eq_true (by omega)
theorem ret_int {k:IntKind} {a b:Int} (h:a=b):Ending.returned (.int k a)=.returned (.int k b):=by rw [h]
theorem ret_bool {a b:Bool} (h:a=b):Ending.returned (.bool a)=.returned (.bool b):=by rw [h]
end Go.Proofs.YtdijhifdjbnkfaaGreat.UM
namespace Go.Proofs.YtdijhifdjbnkfaaGreat.UM
open Go.RowKit
theorem lower_ix0 (w:World):(Instr.index 339 (.agg #[.int .i64 65,.int .i64 90,.int .i64 32,.int .i64 192,.int .i64 214,.int .i64 32,.int .i64 216,.int .i64 222,.int .i64 32,.int .i64 913,.int .i64 929,.int .i64 32,.int .i64 931,.int .i64 939,.int .i64 32,.int .i64 1024,.int .i64 1039,.int .i64 80,.int .i64 1040,.int .i64 1071,.int .i64 32]) (.int .i64 0)).run Tryz.prog w=.ok (.agg #[.int .i64 65,.int .i64 90,.int .i64 32]) w:=by kernel_rfl
theorem lower_ix1 (w:World):(Instr.index 339 (.agg #[.int .i64 65,.int .i64 90,.int .i64 32,.int .i64 192,.int .i64 214,.int .i64 32,.int .i64 216,.int .i64 222,.int .i64 32,.int .i64 913,.int .i64 929,.int .i64 32,.int .i64 931,.int .i64 939,.int .i64 32,.int .i64 1024,.int .i64 1039,.int .i64 80,.int .i64 1040,.int .i64 1071,.int .i64 32]) (.int .i64 1)).run Tryz.prog w=.ok (.agg #[.int .i64 192,.int .i64 214,.int .i64 32]) w:=by kernel_rfl
theorem lower_ix2 (w:World):(Instr.index 339 (.agg #[.int .i64 65,.int .i64 90,.int .i64 32,.int .i64 192,.int .i64 214,.int .i64 32,.int .i64 216,.int .i64 222,.int .i64 32,.int .i64 913,.int .i64 929,.int .i64 32,.int .i64 931,.int .i64 939,.int .i64 32,.int .i64 1024,.int .i64 1039,.int .i64 80,.int .i64 1040,.int .i64 1071,.int .i64 32]) (.int .i64 2)).run Tryz.prog w=.ok (.agg #[.int .i64 216,.int .i64 222,.int .i64 32]) w:=by kernel_rfl
theorem lower_ix3 (w:World):(Instr.index 339 (.agg #[.int .i64 65,.int .i64 90,.int .i64 32,.int .i64 192,.int .i64 214,.int .i64 32,.int .i64 216,.int .i64 222,.int .i64 32,.int .i64 913,.int .i64 929,.int .i64 32,.int .i64 931,.int .i64 939,.int .i64 32,.int .i64 1024,.int .i64 1039,.int .i64 80,.int .i64 1040,.int .i64 1071,.int .i64 32]) (.int .i64 3)).run Tryz.prog w=.ok (.agg #[.int .i64 913,.int .i64 929,.int .i64 32]) w:=by kernel_rfl
theorem lower_ix4 (w:World):(Instr.index 339 (.agg #[.int .i64 65,.int .i64 90,.int .i64 32,.int .i64 192,.int .i64 214,.int .i64 32,.int .i64 216,.int .i64 222,.int .i64 32,.int .i64 913,.int .i64 929,.int .i64 32,.int .i64 931,.int .i64 939,.int .i64 32,.int .i64 1024,.int .i64 1039,.int .i64 80,.int .i64 1040,.int .i64 1071,.int .i64 32]) (.int .i64 4)).run Tryz.prog w=.ok (.agg #[.int .i64 931,.int .i64 939,.int .i64 32]) w:=by kernel_rfl
theorem lower_ix5 (w:World):(Instr.index 339 (.agg #[.int .i64 65,.int .i64 90,.int .i64 32,.int .i64 192,.int .i64 214,.int .i64 32,.int .i64 216,.int .i64 222,.int .i64 32,.int .i64 913,.int .i64 929,.int .i64 32,.int .i64 931,.int .i64 939,.int .i64 32,.int .i64 1024,.int .i64 1039,.int .i64 80,.int .i64 1040,.int .i64 1071,.int .i64 32]) (.int .i64 5)).run Tryz.prog w=.ok (.agg #[.int .i64 1024,.int .i64 1039,.int .i64 80]) w:=by kernel_rfl
theorem lower_ix6 (w:World):(Instr.index 339 (.agg #[.int .i64 65,.int .i64 90,.int .i64 32,.int .i64 192,.int .i64 214,.int .i64 32,.int .i64 216,.int .i64 222,.int .i64 32,.int .i64 913,.int .i64 929,.int .i64 32,.int .i64 931,.int .i64 939,.int .i64 32,.int .i64 1024,.int .i64 1039,.int .i64 80,.int .i64 1040,.int .i64 1071,.int .i64 32]) (.int .i64 6)).run Tryz.prog w=.ok (.agg #[.int .i64 1040,.int .i64 1071,.int .i64 32]) w:=by kernel_rfl
set_option maxRecDepth 100000 in
set_option maxHeartbeats 8000000 in
theorem lower_any (r:Int) (w:World):Calls Tryz.prog 284 #[.int .i64 r] w fun e w'=>e=.returned (.int .i64 (lowerZ r))∧Below w.heap.size w w':=by
 go_enter Tryz.func284,Tryz.ntmps284
 go_wp2
 go_loopw [13] (fun i wr=>∃ k:Nat,k≤7∧i=.int .i64 k∧lowNo k r∧Below w.heap.size w wr) (fun i _=>7 - (intOf i).toNat)
 case atStart=>exact ⟨0,by omega,rfl,lowNo_zero r,Below.refl _ _⟩
 case round =>
  obtain ⟨k,hk,rfl,hno,hb⟩:=hrel
  have hsz:=hb.size
  have hk2:k=0∨k=1∨k=2∨k=3∨k=4∨k=5∨k=6∨k=7:=by omega
  rcases hk2 with rfl | rfl | rfl | rfl | rfl | rfl | rfl | rfl
  ·have hix:=lower_ix0
   by_cases g:65≤r∧r≤90
   ·have e:=low_hit0 r g
    obtain ⟨g0,g1⟩:=g
    have E:=Lib.hid e
    clear e hno
    go_wp2
    go_ret
    exact ⟨ret_int (by rw [E.out]),hb.alloc hsz _⟩
   ·have hno2:=lowNo_1 r hno g
    clear hno
    by_cases g0:65≤r
    ·have g1:¬ r≤90:=by omega
     clear g
     go_wp2
     go_roundw
     case rel=>exact ⟨1,by omega,by go_num,hno2,hb.alloc hsz _⟩
     case measure=>simp [intOf]
    ·clear g
     go_wp2
     go_roundw
     case rel=>exact ⟨1,by omega,by go_num,hno2,hb.alloc hsz _⟩
     case measure=>simp [intOf]
  ·have hix:=lower_ix1
   by_cases g:192≤r∧r≤214
   ·have e:=low_hit1 r g
    obtain ⟨g0,g1⟩:=g
    have E:=Lib.hid e
    clear e hno
    go_wp2
    go_ret
    exact ⟨ret_int (by rw [E.out]),hb.alloc hsz _⟩
   ·have hno2:=lowNo_2 r hno g
    clear hno
    by_cases g0:192≤r
    ·have g1:¬ r≤214:=by omega
     clear g
     go_wp2
     go_roundw
     case rel=>exact ⟨2,by omega,by go_num,hno2,hb.alloc hsz _⟩
     case measure=>simp [intOf]
    ·clear g
     go_wp2
     go_roundw
     case rel=>exact ⟨2,by omega,by go_num,hno2,hb.alloc hsz _⟩
     case measure=>simp [intOf]
  ·have hix:=lower_ix2
   by_cases g:216≤r∧r≤222
   ·have e:=low_hit2 r g
    obtain ⟨g0,g1⟩:=g
    have E:=Lib.hid e
    clear e hno
    go_wp2
    go_ret
    exact ⟨ret_int (by rw [E.out]),hb.alloc hsz _⟩
   ·have hno2:=lowNo_3 r hno g
    clear hno
    by_cases g0:216≤r
    ·have g1:¬ r≤222:=by omega
     clear g
     go_wp2
     go_roundw
     case rel=>exact ⟨3,by omega,by go_num,hno2,hb.alloc hsz _⟩
     case measure=>simp [intOf]
    ·clear g
     go_wp2
     go_roundw
     case rel=>exact ⟨3,by omega,by go_num,hno2,hb.alloc hsz _⟩
     case measure=>simp [intOf]
  ·have hix:=lower_ix3
   by_cases g:913≤r∧r≤929
   ·have e:=low_hit3 r g
    obtain ⟨g0,g1⟩:=g
    have E:=Lib.hid e
    clear e hno
    go_wp2
    go_ret
    exact ⟨ret_int (by rw [E.out]),hb.alloc hsz _⟩
   ·have hno2:=lowNo_4 r hno g
    clear hno
    by_cases g0:913≤r
    ·have g1:¬ r≤929:=by omega
     clear g
     go_wp2
     go_roundw
     case rel=>exact ⟨4,by omega,by go_num,hno2,hb.alloc hsz _⟩
     case measure=>simp [intOf]
    ·clear g
     go_wp2
     go_roundw
     case rel=>exact ⟨4,by omega,by go_num,hno2,hb.alloc hsz _⟩
     case measure=>simp [intOf]
  ·have hix:=lower_ix4
   by_cases g:931≤r∧r≤939
   ·have e:=low_hit4 r g
    obtain ⟨g0,g1⟩:=g
    have E:=Lib.hid e
    clear e hno
    go_wp2
    go_ret
    exact ⟨ret_int (by rw [E.out]),hb.alloc hsz _⟩
   ·have hno2:=lowNo_5 r hno g
    clear hno
    by_cases g0:931≤r
    ·have g1:¬ r≤939:=by omega
     clear g
     go_wp2
     go_roundw
     case rel=>exact ⟨5,by omega,by go_num,hno2,hb.alloc hsz _⟩
     case measure=>simp [intOf]
    ·clear g
     go_wp2
     go_roundw
     case rel=>exact ⟨5,by omega,by go_num,hno2,hb.alloc hsz _⟩
     case measure=>simp [intOf]
  ·have hix:=lower_ix5
   by_cases g:1024≤r∧r≤1039
   ·have e:=low_hit5 r g
    obtain ⟨g0,g1⟩:=g
    have E:=Lib.hid e
    clear e hno
    go_wp2
    go_ret
    exact ⟨ret_int (by rw [E.out]),hb.alloc hsz _⟩
   ·have hno2:=lowNo_6 r hno g
    clear hno
    by_cases g0:1024≤r
    ·have g1:¬ r≤1039:=by omega
     clear g
     go_wp2
     go_roundw
     case rel=>exact ⟨6,by omega,by go_num,hno2,hb.alloc hsz _⟩
     case measure=>simp [intOf]
    ·clear g
     go_wp2
     go_roundw
     case rel=>exact ⟨6,by omega,by go_num,hno2,hb.alloc hsz _⟩
     case measure=>simp [intOf]
  ·have hix:=lower_ix6
   by_cases g:1040≤r∧r≤1071
   ·have e:=low_hit6 r g
    obtain ⟨g0,g1⟩:=g
    have E:=Lib.hid e
    clear e hno
    go_wp2
    go_ret
    exact ⟨ret_int (by rw [E.out]),hb.alloc hsz _⟩
   ·have hno2:=lowNo_7 r hno g
    clear hno
    by_cases g0:1040≤r
    ·have g1:¬ r≤1071:=by omega
     clear g
     go_wp2
     go_roundw
     case rel=>exact ⟨7,by omega,by go_num,hno2,hb.alloc hsz _⟩
     case measure=>simp [intOf]
    ·clear g
     go_wp2
     go_roundw
     case rel=>exact ⟨7,by omega,by go_num,hno2,hb.alloc hsz _⟩
     case measure=>simp [intOf]
  ·have e:=lowNo_end r hno
   have E:=Lib.hid e
   clear e hno
   go_wp2
   go_ret
   exact ⟨ret_int (by rw [E.out]),hb⟩
end Go.Proofs.YtdijhifdjbnkfaaGreat.UM
namespace Go.Proofs.YtdijhifdjbnkfaaGreat.UM
open Go.RowKit
theorem word_ix0 (w:World):(Instr.index 335 (.agg #[.int .i64 48,.int .i64 57,.int .i64 65,.int .i64 90,.int .i64 97,.int .i64 122,.int .i64 192,.int .i64 214,.int .i64 216,.int .i64 246,.int .i64 248,.int .i64 255,.int .i64 913,.int .i64 929,.int .i64 931,.int .i64 974,.int .i64 1024,.int .i64 1119]) (.int .i64 0)).run Tryz.prog w=.ok (.agg #[.int .i64 48,.int .i64 57]) w:=by kernel_rfl
theorem word_ix1 (w:World):(Instr.index 335 (.agg #[.int .i64 48,.int .i64 57,.int .i64 65,.int .i64 90,.int .i64 97,.int .i64 122,.int .i64 192,.int .i64 214,.int .i64 216,.int .i64 246,.int .i64 248,.int .i64 255,.int .i64 913,.int .i64 929,.int .i64 931,.int .i64 974,.int .i64 1024,.int .i64 1119]) (.int .i64 1)).run Tryz.prog w=.ok (.agg #[.int .i64 65,.int .i64 90]) w:=by kernel_rfl
theorem word_ix2 (w:World):(Instr.index 335 (.agg #[.int .i64 48,.int .i64 57,.int .i64 65,.int .i64 90,.int .i64 97,.int .i64 122,.int .i64 192,.int .i64 214,.int .i64 216,.int .i64 246,.int .i64 248,.int .i64 255,.int .i64 913,.int .i64 929,.int .i64 931,.int .i64 974,.int .i64 1024,.int .i64 1119]) (.int .i64 2)).run Tryz.prog w=.ok (.agg #[.int .i64 97,.int .i64 122]) w:=by kernel_rfl
theorem word_ix3 (w:World):(Instr.index 335 (.agg #[.int .i64 48,.int .i64 57,.int .i64 65,.int .i64 90,.int .i64 97,.int .i64 122,.int .i64 192,.int .i64 214,.int .i64 216,.int .i64 246,.int .i64 248,.int .i64 255,.int .i64 913,.int .i64 929,.int .i64 931,.int .i64 974,.int .i64 1024,.int .i64 1119]) (.int .i64 3)).run Tryz.prog w=.ok (.agg #[.int .i64 192,.int .i64 214]) w:=by kernel_rfl
theorem word_ix4 (w:World):(Instr.index 335 (.agg #[.int .i64 48,.int .i64 57,.int .i64 65,.int .i64 90,.int .i64 97,.int .i64 122,.int .i64 192,.int .i64 214,.int .i64 216,.int .i64 246,.int .i64 248,.int .i64 255,.int .i64 913,.int .i64 929,.int .i64 931,.int .i64 974,.int .i64 1024,.int .i64 1119]) (.int .i64 4)).run Tryz.prog w=.ok (.agg #[.int .i64 216,.int .i64 246]) w:=by kernel_rfl
theorem word_ix5 (w:World):(Instr.index 335 (.agg #[.int .i64 48,.int .i64 57,.int .i64 65,.int .i64 90,.int .i64 97,.int .i64 122,.int .i64 192,.int .i64 214,.int .i64 216,.int .i64 246,.int .i64 248,.int .i64 255,.int .i64 913,.int .i64 929,.int .i64 931,.int .i64 974,.int .i64 1024,.int .i64 1119]) (.int .i64 5)).run Tryz.prog w=.ok (.agg #[.int .i64 248,.int .i64 255]) w:=by kernel_rfl
theorem word_ix6 (w:World):(Instr.index 335 (.agg #[.int .i64 48,.int .i64 57,.int .i64 65,.int .i64 90,.int .i64 97,.int .i64 122,.int .i64 192,.int .i64 214,.int .i64 216,.int .i64 246,.int .i64 248,.int .i64 255,.int .i64 913,.int .i64 929,.int .i64 931,.int .i64 974,.int .i64 1024,.int .i64 1119]) (.int .i64 6)).run Tryz.prog w=.ok (.agg #[.int .i64 913,.int .i64 929]) w:=by kernel_rfl
theorem word_ix7 (w:World):(Instr.index 335 (.agg #[.int .i64 48,.int .i64 57,.int .i64 65,.int .i64 90,.int .i64 97,.int .i64 122,.int .i64 192,.int .i64 214,.int .i64 216,.int .i64 246,.int .i64 248,.int .i64 255,.int .i64 913,.int .i64 929,.int .i64 931,.int .i64 974,.int .i64 1024,.int .i64 1119]) (.int .i64 7)).run Tryz.prog w=.ok (.agg #[.int .i64 931,.int .i64 974]) w:=by kernel_rfl
theorem word_ix8 (w:World):(Instr.index 335 (.agg #[.int .i64 48,.int .i64 57,.int .i64 65,.int .i64 90,.int .i64 97,.int .i64 122,.int .i64 192,.int .i64 214,.int .i64 216,.int .i64 246,.int .i64 248,.int .i64 255,.int .i64 913,.int .i64 929,.int .i64 931,.int .i64 974,.int .i64 1024,.int .i64 1119]) (.int .i64 8)).run Tryz.prog w=.ok (.agg #[.int .i64 1024,.int .i64 1119]) w:=by kernel_rfl
set_option maxRecDepth 100000 in
set_option maxHeartbeats 8000000 in
theorem word_any (r:Int) (w:World):Calls Tryz.prog 270 #[.int .i64 r] w fun e w'=>e=.returned (.bool (wordZ r))∧Below w.heap.size w w':=by
 go_enter Tryz.func270,Tryz.ntmps270
 go_wp2
 go_loopw [15] (fun i wr=>∃ k:Nat,k≤9∧i=.int .i64 k∧wordNo k r∧Below w.heap.size w wr) (fun i _=>9 - (intOf i).toNat)
 case atStart=>exact ⟨0,by omega,rfl,wordNo_zero r,Below.refl _ _⟩
 case round =>
  obtain ⟨k,hk,rfl,hno,hb⟩:=hrel
  have hsz:=hb.size
  have hk2:k=0∨k=1∨k=2∨k=3∨k=4∨k=5∨k=6∨k=7∨k=8∨k=9:=by omega
  rcases hk2 with rfl | rfl | rfl | rfl | rfl | rfl | rfl | rfl | rfl | rfl
  ·have hix:=word_ix0
   by_cases g:48≤r∧r≤57
   ·have e:=word_hit0 r g
    obtain ⟨g0,g1⟩:=g
    have E:=Lib.hid e
    clear e hno
    go_wp2
    go_ret
    exact ⟨ret_bool (by rw [E.out]),hb.alloc hsz _⟩
   ·have hno2:=wordNo_1 r hno g
    clear hno
    by_cases g0:48≤r
    ·have g1:¬ r≤57:=by omega
     clear g
     go_wp2
     go_roundw
     case rel=>exact ⟨1,by omega,by go_num,hno2,hb.alloc hsz _⟩
     case measure=>simp [intOf]
    ·clear g
     go_wp2
     go_roundw
     case rel=>exact ⟨1,by omega,by go_num,hno2,hb.alloc hsz _⟩
     case measure=>simp [intOf]
  ·have hix:=word_ix1
   by_cases g:65≤r∧r≤90
   ·have e:=word_hit1 r g
    obtain ⟨g0,g1⟩:=g
    have E:=Lib.hid e
    clear e hno
    go_wp2
    go_ret
    exact ⟨ret_bool (by rw [E.out]),hb.alloc hsz _⟩
   ·have hno2:=wordNo_2 r hno g
    clear hno
    by_cases g0:65≤r
    ·have g1:¬ r≤90:=by omega
     clear g
     go_wp2
     go_roundw
     case rel=>exact ⟨2,by omega,by go_num,hno2,hb.alloc hsz _⟩
     case measure=>simp [intOf]
    ·clear g
     go_wp2
     go_roundw
     case rel=>exact ⟨2,by omega,by go_num,hno2,hb.alloc hsz _⟩
     case measure=>simp [intOf]
  ·have hix:=word_ix2
   by_cases g:97≤r∧r≤122
   ·have e:=word_hit2 r g
    obtain ⟨g0,g1⟩:=g
    have E:=Lib.hid e
    clear e hno
    go_wp2
    go_ret
    exact ⟨ret_bool (by rw [E.out]),hb.alloc hsz _⟩
   ·have hno2:=wordNo_3 r hno g
    clear hno
    by_cases g0:97≤r
    ·have g1:¬ r≤122:=by omega
     clear g
     go_wp2
     go_roundw
     case rel=>exact ⟨3,by omega,by go_num,hno2,hb.alloc hsz _⟩
     case measure=>simp [intOf]
    ·clear g
     go_wp2
     go_roundw
     case rel=>exact ⟨3,by omega,by go_num,hno2,hb.alloc hsz _⟩
     case measure=>simp [intOf]
  ·have hix:=word_ix3
   by_cases g:192≤r∧r≤214
   ·have e:=word_hit3 r g
    obtain ⟨g0,g1⟩:=g
    have E:=Lib.hid e
    clear e hno
    go_wp2
    go_ret
    exact ⟨ret_bool (by rw [E.out]),hb.alloc hsz _⟩
   ·have hno2:=wordNo_4 r hno g
    clear hno
    by_cases g0:192≤r
    ·have g1:¬ r≤214:=by omega
     clear g
     go_wp2
     go_roundw
     case rel=>exact ⟨4,by omega,by go_num,hno2,hb.alloc hsz _⟩
     case measure=>simp [intOf]
    ·clear g
     go_wp2
     go_roundw
     case rel=>exact ⟨4,by omega,by go_num,hno2,hb.alloc hsz _⟩
     case measure=>simp [intOf]
  ·have hix:=word_ix4
   by_cases g:216≤r∧r≤246
   ·have e:=word_hit4 r g
    obtain ⟨g0,g1⟩:=g
    have E:=Lib.hid e
    clear e hno
    go_wp2
    go_ret
    exact ⟨ret_bool (by rw [E.out]),hb.alloc hsz _⟩
   ·have hno2:=wordNo_5 r hno g
    clear hno
    by_cases g0:216≤r
    ·have g1:¬ r≤246:=by omega
     clear g
     go_wp2
     go_roundw
     case rel=>exact ⟨5,by omega,by go_num,hno2,hb.alloc hsz _⟩
     case measure=>simp [intOf]
    ·clear g
     go_wp2
     go_roundw
     case rel=>exact ⟨5,by omega,by go_num,hno2,hb.alloc hsz _⟩
     case measure=>simp [intOf]
  ·have hix:=word_ix5
   by_cases g:248≤r∧r≤255
   ·have e:=word_hit5 r g
    obtain ⟨g0,g1⟩:=g
    have E:=Lib.hid e
    clear e hno
    go_wp2
    go_ret
    exact ⟨ret_bool (by rw [E.out]),hb.alloc hsz _⟩
   ·have hno2:=wordNo_6 r hno g
    clear hno
    by_cases g0:248≤r
    ·have g1:¬ r≤255:=by omega
     clear g
     go_wp2
     go_roundw
     case rel=>exact ⟨6,by omega,by go_num,hno2,hb.alloc hsz _⟩
     case measure=>simp [intOf]
    ·clear g
     go_wp2
     go_roundw
     case rel=>exact ⟨6,by omega,by go_num,hno2,hb.alloc hsz _⟩
     case measure=>simp [intOf]
  ·have hix:=word_ix6
   by_cases g:913≤r∧r≤929
   ·have e:=word_hit6 r g
    obtain ⟨g0,g1⟩:=g
    have E:=Lib.hid e
    clear e hno
    go_wp2
    go_ret
    exact ⟨ret_bool (by rw [E.out]),hb.alloc hsz _⟩
   ·have hno2:=wordNo_7 r hno g
    clear hno
    by_cases g0:913≤r
    ·have g1:¬ r≤929:=by omega
     clear g
     go_wp2
     go_roundw
     case rel=>exact ⟨7,by omega,by go_num,hno2,hb.alloc hsz _⟩
     case measure=>simp [intOf]
    ·clear g
     go_wp2
     go_roundw
     case rel=>exact ⟨7,by omega,by go_num,hno2,hb.alloc hsz _⟩
     case measure=>simp [intOf]
  ·have hix:=word_ix7
   by_cases g:931≤r∧r≤974
   ·have e:=word_hit7 r g
    obtain ⟨g0,g1⟩:=g
    have E:=Lib.hid e
    clear e hno
    go_wp2
    go_ret
    exact ⟨ret_bool (by rw [E.out]),hb.alloc hsz _⟩
   ·have hno2:=wordNo_8 r hno g
    clear hno
    by_cases g0:931≤r
    ·have g1:¬ r≤974:=by omega
     clear g
     go_wp2
     go_roundw
     case rel=>exact ⟨8,by omega,by go_num,hno2,hb.alloc hsz _⟩
     case measure=>simp [intOf]
    ·clear g
     go_wp2
     go_roundw
     case rel=>exact ⟨8,by omega,by go_num,hno2,hb.alloc hsz _⟩
     case measure=>simp [intOf]
  ·have hix:=word_ix8
   by_cases g:1024≤r∧r≤1119
   ·have e:=word_hit8 r g
    obtain ⟨g0,g1⟩:=g
    have E:=Lib.hid e
    clear e hno
    go_wp2
    go_ret
    exact ⟨ret_bool (by rw [E.out]),hb.alloc hsz _⟩
   ·have hno2:=wordNo_9 r hno g
    clear hno
    by_cases g0:1024≤r
    ·have g1:¬ r≤1119:=by omega
     clear g
     go_wp2
     go_roundw
     case rel=>exact ⟨9,by omega,by go_num,hno2,hb.alloc hsz _⟩
     case measure=>simp [intOf]
    ·clear g
     go_wp2
     go_roundw
     case rel=>exact ⟨9,by omega,by go_num,hno2,hb.alloc hsz _⟩
     case measure=>simp [intOf]
  ·have e:=wordNo_end r hno
   have E:=Lib.hid e
   clear e hno
   go_wp2
   go_ret
   exact ⟨ret_bool (by rw [E.out]),hb⟩
end Go.Proofs.YtdijhifdjbnkfaaGreat.UM
