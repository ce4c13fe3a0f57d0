import Derived.Test.YtidhgicajlaafaaGreatZD5
set_option maxRecDepth 100000
set_option maxHeartbeats 8000000
set_option linter.unusedVariables false
set_option linter.unusedSimpArgs false
namespace Go.Proofs.YtidhgicajlaafaaGreat.EM
open Go
open TK (wordsB)
def lessL:List UInt8→List UInt8→Bool
 | [],[]=>false
 | [],_::_=>true
 | _::_,[]=>false
 | a::x,b::y=>if a=b then lessL x y else decide (a.toNat<b.toNat)
theorem lessL_irr:∀ x,lessL x x=false
 | []=>rfl
 | a::x=>by rw [lessL,if_pos rfl,lessL_irr x]
theorem lessL_trans:∀ {x y z},lessL x y=true→lessL y z=true→lessL x z=true
 | [],[],_,h,_=>by simp [lessL] at h
 | [],_::_,[],_,h=>by simp [lessL] at h
 | [],_::_,_::_,_,_=>rfl
 | _::_,[],_,h,_=>by simp [lessL] at h
 | _::_,_::_,[],_,h=>by simp [lessL] at h
 | a::x,b::y,c::z,h1,h2=>by
   rw [lessL] at h1 h2 ⊢
   by_cases e1:a=b
   ·subst e1
    rw [if_pos rfl] at h1
    by_cases e2:a=c
    ·subst e2
     rw [if_pos rfl] at h2 ⊢
     exact lessL_trans h1 h2
    ·rw [if_neg e2] at h2 ⊢
     exact h2
   ·rw [if_neg e1] at h1
    have h1':=of_decide_eq_true h1
    by_cases e2:b=c
    ·subst e2
     rw [if_neg e1]
     exact h1
    ·rw [if_neg e2] at h2
     have h2':=of_decide_eq_true h2
     have e3:a≠c:=by rintro rfl;omega
     rw [if_neg e3]
     exact decide_eq_true (by omega)
theorem lessL_total:∀ {x y},lessL x y=false→x≠y→lessL y x=true
 | [],[],_,h=>absurd rfl h
 | [],_::_,h,_=>by simp [lessL] at h
 | _::_,[],_,_=>rfl
 | a::x,b::y,h,hn=>by
   rw [lessL] at h ⊢
   by_cases e:a=b
   ·subst e
    rw [if_pos rfl] at h ⊢
    exact lessL_total h (fun e2=>hn (by rw [e2]))
   ·rw [if_neg e] at h
    rw [if_neg (fun e2=>e e2.symm)]
    have h':=of_decide_eq_false h
    have:a.toNat≠b.toNat:=fun e2=>e (UInt8.toNat_inj.1 e2)
    exact decide_eq_true (by omega)
theorem lessL_ne {x y:List UInt8} (h:lessL x y=true):x≠y:=by rintro rfl;rw [lessL_irr] at h;cases h
theorem less_bytes:∀ x y,Op.bytesLess x y=lessL x y
 | [],[]=>by simp [Op.bytesLess,lessL]
 | [],_::_=>by simp [Op.bytesLess,lessL]
 | _::_,[]=>by simp [Op.bytesLess,lessL]
 | a::x,b::y=>by
   rw [Op.bytesLess,lessL,less_bytes x y]
   by_cases e:a=b
   ·subst e
    simp
   ·have:a.toNat≠b.toNat:=fun e2=>e (UInt8.toNat_inj.1 e2)
    simp [e,UInt8.lt_iff_toNat_lt]
theorem lessL_drop {x y:List UInt8} {i:Nat} (hx:i<x.length) (hy:i<y.length):lessL (x.drop i) (y.drop i)=if x[i]=y[i] then lessL (x.drop (i+1)) (y.drop (i+1)) else decide (x[i].toNat<y[i].toNat):=by
 rw [List.drop_eq_getElem_cons hx,List.drop_eq_getElem_cons hy,lessL]
theorem lessL_end {x y:List UInt8} {i:Nat} (h:x.length≤i∨y.length≤i) (hi:i≤x.length) (hj:i≤y.length):lessL (x.drop i) (y.drop i)=decide (x.length<y.length):=by
 rcases h with h | h
 ·rw [List.drop_of_length_le h]
  cases hd:y.drop i with
  | nil =>
    have:=congrArg List.length hd
    rw [List.length_drop] at this
    simp at this
    rw [lessL]
    exact (decide_eq_false (by omega)).symm
  | cons c r =>
    have:=congrArg List.length hd
    rw [List.length_drop] at this
    simp at this
    rw [lessL]
    exact (decide_eq_true (by omega)).symm
 ·rw [List.drop_of_length_le (l:=y) h]
  cases hd:x.drop i with
  | nil =>
    have:=congrArg List.length hd
    rw [List.length_drop] at this
    simp at this
    rw [lessL]
    exact (decide_eq_false (by omega)).symm
  | cons c r =>
    rw [lessL]
    exact (decide_eq_false (by omega)).symm
abbrev Tr (α:Type):=List UInt8×List α
abbrev Trm:=Tr Int
variable {α : Type}
def addP:List (Tr α)→List UInt8→α→List (Tr α)
 | [],s,p=>[(s,[p])]
 | t::r,s,p=>if lessL t.1 s=true then t::addP r s p else if t.1=s then (s,t.2++[p])::r else (s,[p])::t::r
theorem addP_hit:∀ {l:List (Tr α)} {s:List UInt8} {k:Nat} (p:α) (hk:k<l.length),(∀ j (hj:j<l.length),j<k→lessL l[j].1 s=true)→l[k].1=s →
  addP l s p=l.take k++(s,l[k].2++[p])::l.drop (k+1)
 | [],s,k,p,hk,_,_=>by simp at hk
 | t::r,s,0,p,_,_,h=>by
   simp only [List.getElem_cons_zero] at h
   rw [addP,if_neg (by rw [h,lessL_irr];exact Bool.false_ne_true),if_pos h]
   simp
 | t::r,s,k+1,p,hk,h1,h2=>by
   have ht:=h1 0 (by simp) (by omega)
   simp only [List.getElem_cons_zero] at ht
   rw [addP,if_pos ht,addP_hit (l:=r) (s:=s) (k:=k) p (by simpa using hk) (fun j hj hjk=>h1 (j+1) (Nat.succ_lt_succ hj) (by omega)) (by simpa using h2)]
   simp
theorem addP_miss:∀ {l:List (Tr α)} {s:List UInt8} {k:Nat} (p:α),k≤l.length→(∀ j (hj:j<l.length),j<k→lessL l[j].1 s=true)→(∀ hk:k<l.length,lessL l[k].1 s=false∧l[k].1≠s) →
  addP l s p=l.take k++(s,[p])::l.drop k
 | [],s,k,p,hk,_,_=>by
   have:k=0:=by simpa using hk
   subst this
   simp [addP]
 | t::r,s,0,p,_,_,h=>by
   have h0:=h (by simp)
   simp only [List.getElem_cons_zero] at h0
   rw [addP,if_neg (by rw [h0.1];exact Bool.false_ne_true),if_neg h0.2]
   simp
 | t::r,s,k+1,p,hk,h1,h2=>by
   have ht:=h1 0 (by simp) (by omega)
   simp only [List.getElem_cons_zero] at ht
   rw [addP,if_pos ht,addP_miss (l:=r) (s:=s) (k:=k) p (by simpa using hk) (fun j hj hjk=>h1 (j+1) (Nat.succ_lt_succ hj) (by omega)) (fun hk=>h2 (Nat.succ_lt_succ hk))]
   simp
def foldP (l:List (Tr α)) (qs:List (List UInt8×α)):List (Tr α):=qs.foldl (fun l q=>addP l q.1 q.2) l
theorem foldP_append (l:List (Tr α)) (a b:List (List UInt8×α)):foldP l (a++b)=foldP (foldP l a) b:=by simp [foldP]
theorem foldP_one (l:List (Tr α)) (s:List UInt8) (p:α):foldP l [(s,p)]=addP l s p:=rfl
def pairsW (n:List UInt8) (ws:List (List UInt8)) (base:Int):List (List UInt8×Int):=ws.zipIdx.map fun p=>(n++58::p.1,base+(p.2:Int))
theorem pairsW_next (n:List UInt8) {ws:List (List UInt8)} {k:Nat} (hk:k<ws.length) (base:Int):pairsW n (ws.take (k+1)) base=pairsW n (ws.take k) base++[(n++58::ws[k],base+(k:Int))]:=by
 unfold pairsW
 rw [List.take_succ_eq_append_getElem hk,List.zipIdx_append,List.map_append]
 simp [Nat.min_eq_left (Nat.le_of_lt hk)]
def pairsF:Int→List Fld→List (List UInt8×Int)
 | _,[]=>[]
 | base,f::r=>pairsW f.1 (wordsB f.2) base++pairsF (base+((wordsB f.2).length:Int)+64) r
def baseF (fs:List Fld):Int:=(fs.map fun f=>((wordsB f.2).length:Int)+64).sum
theorem baseF_next {fs:List Fld} {k:Nat} (hk:k<fs.length):baseF (fs.take (k+1))=baseF (fs.take k)+((wordsB fs[k].2).length:Int)+64:=by
 unfold baseF
 rw [List.take_succ_eq_append_getElem hk,List.map_append,List.sum_append]
 simp
 omega
theorem pairsF_append:∀ (a b:List Fld) (base:Int),pairsF base (a++b)=pairsF base a++pairsF (base+baseF a) b
 | [],b,base=>by simp [pairsF,baseF]
 | f::a,b,base=>by
   rw [List.cons_append,pairsF,pairsF,pairsF_append a b,List.append_assoc]
   congr 3
   simp [baseF]
   omega
theorem pairsF_next {fs:List Fld} {k:Nat} (hk:k<fs.length):pairsF 0 (fs.take (k+1))=pairsF 0 (fs.take k)++pairsW fs[k].1 (wordsB fs[k].2) (baseF (fs.take k)):=by
 rw [List.take_succ_eq_append_getElem hk,pairsF_append,pairsF,pairsF,List.append_nil,Int.zero_add]
def termsF (fs:List Fld):List Trm:=foldP [] (pairsF 0 fs)
def termsE (e:Ev):List Trm:=if checkE e≠0 then [] else termsF e.2
def Rising (l:List (Tr α)):Prop:=l.Pairwise fun a b=>lessL a.1 b.1=true
theorem addP_mem:∀ {l:List (Tr α)} {s:List UInt8} {p:α} {t:Tr α},t∈addP l s p→t.1=s∨∃ u∈l,u.1=t.1
 | [],s,p,t,h=>by simp [addP] at h;exact .inl (by rw [h])
 | u::r,s,p,t,h=>by
   rw [addP] at h
   split at h
   ·rcases List.mem_cons.1 h with rfl | h
    ·exact .inr ⟨t,by simp,rfl⟩
    ·rcases addP_mem h with h | ⟨v,hv,he⟩
     ·exact .inl h
     ·exact .inr ⟨v,by simp [hv],he⟩
   ·split at h
    ·rcases List.mem_cons.1 h with rfl | h
     ·exact .inl rfl
     ·exact .inr ⟨t,by simp [h],rfl⟩
    ·rcases List.mem_cons.1 h with rfl | h
     ·exact .inl rfl
     ·exact .inr ⟨t,by simpa using h,rfl⟩
theorem addP_rising:∀ {l:List (Tr α)} (s:List UInt8) (p:α),Rising l→Rising (addP l s p)
 | [],s,p,_=>by simp [addP,Rising]
 | t::r,s,p,h=>by
   unfold Rising at h ⊢
   rw [addP]
   rw [List.pairwise_cons] at h
   split
   ·rename_i ht
    rw [List.pairwise_cons]
    refine ⟨fun u hu => ?_,addP_rising s p h.2⟩
    rcases addP_mem hu with hu | ⟨v,hv,he⟩
    ·rw [hu];exact ht
    ·rw [← he];exact h.1 v hv
   ·split
    ·rename_i h1 h2
     rw [List.pairwise_cons]
     exact ⟨fun u hu=>by rw [← h2];exact h.1 u hu,h.2⟩
    ·rename_i h1 h2
     have hs:lessL s t.1=true:=lessL_total (by simpa using h1) h2
     rw [List.pairwise_cons,List.pairwise_cons]
     refine ⟨fun u hu => ?_,h.1,h.2⟩
     rcases List.mem_cons.1 hu with rfl | hu
     ·exact hs
     ·exact lessL_trans hs (h.1 u hu)
theorem foldP_rising:∀ (qs:List (List UInt8×α)) {l:List (Tr α)},Rising l→Rising (foldP l qs)
 | [],_,h=>h
 | q::qs,l,h=>foldP_rising qs (addP_rising q.1 q.2 h)
def posOf:List (Tr α)→List UInt8→List α
 | [],_=>[]
 | t::r,s=>if t.1=s then t.2 else posOf r s
theorem posOf_none:∀ {l:List (Tr α)} {s:List UInt8},(∀ t∈l,t.1≠s)→posOf l s=[]
 | [],_,_=>rfl
 | t::r,s,h=>by
   rw [posOf,if_neg (h t (by simp))]
   exact posOf_none fun u hu=>h u (by simp [hu])
theorem posOf_add:∀ {l:List (Tr α)} (s:List UInt8) (p:α) (x:List UInt8),Rising l→posOf (addP l s p) x=if x=s then posOf l s++[p] else posOf l x
 | [],s,p,x,_=>by
   simp only [addP,posOf]
   by_cases h:s=x
   ·subst h;simp
   ·rw [if_neg h,if_neg (fun e=>h e.symm)]
 | t::r,s,p,x,h=>by
   unfold Rising at h
   rw [List.pairwise_cons] at h
   rw [addP]
   split
   ·rename_i ht
    have hne:=lessL_ne ht
    rw [posOf,posOf_add s p x h.2]
    by_cases hx:x=s
    ·subst hx
     rw [if_neg hne,if_pos rfl,if_pos rfl,posOf,if_neg hne]
    ·rw [if_neg hx,if_neg hx,posOf]
   ·split
    ·rename_i h1 h2
     by_cases hx:x=s
     ·subst hx
      simp only [posOf,h2,if_true]
     ·simp only [posOf]
      rw [if_neg (fun e=>hx e.symm),if_neg hx,if_neg (fun e=>hx (by rw [← h2,e]))]
    ·rename_i h1 h2
     by_cases hx:x=s
     ·subst hx
      have hs:lessL x t.1=true:=lessL_total (by simpa using h1) h2
      have hn:posOf (t::r) x=[]:=posOf_none fun u hu e=>by
       rcases List.mem_cons.1 hu with rfl | hu
       ·exact h2 e
       ·have:=lessL_trans hs (h.1 u hu)
        rw [e] at this
        exact lessL_ne this rfl
      rw [posOf,if_pos rfl,if_pos rfl,hn]
      rfl
     ·rw [posOf,if_neg (fun e=>hx e.symm),if_neg hx]
theorem posOf_fold:∀ (qs:List (List UInt8×α)) {l:List (Tr α)} (x:List UInt8),Rising l→posOf (foldP l qs) x=posOf l x++(qs.filter (fun q=>q.1=x)).map (·.2)
 | [],l,x,_=>by simp [foldP]
 | q::qs,l,x,h=>by
   have e:foldP l (q::qs)=foldP (addP l q.1 q.2) qs:=rfl
   rw [e,posOf_fold qs x (addP_rising _ _ h),posOf_add _ _ _ h]
   by_cases hx:x=q.1
   ·subst hx
    simp
   ·rw [if_neg hx,List.filter_cons_of_neg (by simpa using fun e=>hx e.symm)]
theorem termsF_pos (fs:List Fld) (x:List UInt8):posOf (termsF fs) x=((pairsF 0 fs).filter (fun q=>q.1=x)).map (·.2):=by
 unfold termsF
 rw [posOf_fold _ _ (by simp [Rising])]
 rfl
theorem termsF_rising (fs:List Fld):Rising (termsF fs):=foldP_rising _ (by simp [Rising])
theorem addP_ne:∀ {l:List (Tr α)} (s:List UInt8) (p:α),(∀ t∈l,t.2≠[])→∀ t∈addP l s p,t.2≠[]
 | [],s,p,_=>by simp [addP]
 | u::r,s,p,h=>by
   intro t ht
   rw [addP] at ht
   split at ht
   ·rcases List.mem_cons.1 ht with rfl | ht
    ·exact h t (by simp)
    ·exact addP_ne s p (fun v hv=>h v (by simp [hv])) t ht
   ·split at ht
    ·rcases List.mem_cons.1 ht with rfl | ht
     ·simp
     ·exact h t (by simp [ht])
    ·rcases List.mem_cons.1 ht with rfl | ht
     ·simp
     ·exact h t (by simpa using ht)
theorem foldP_ne:∀ (qs:List (List UInt8×α)) {l:List (Tr α)},(∀ t∈l,t.2≠[])→∀ t∈foldP l qs,t.2≠[]
 | [],_,h=>h
 | q::qs,l,h=>foldP_ne qs (addP_ne q.1 q.2 h)
theorem termsF_ne (fs:List Fld):∀ t∈termsF fs,t.2≠[]:=foldP_ne _ (by simp)
theorem rising_unique:∀ {a b:List (Tr α)},Rising a→Rising b→(∀ t∈a,t.2≠[])→(∀ t∈b,t.2≠[])→(∀ x,posOf a x=posOf b x)→a=b
 | [],[],_,_,_,_,_=>rfl
 | [],t::r,_,_,_,h2,h=>by
   have:=h t.1
   rw [posOf,posOf,if_pos rfl] at this
   exact absurd this.symm (h2 t (by simp))
 | t::r,[],_,_,h1,_,h=>by
   have:=h t.1
   rw [posOf,posOf,if_pos rfl] at this
   exact absurd this (h1 t (by simp))
 | t::r,u::q,ha,hb,h1,h2,h=>by
   unfold Rising at ha hb
   rw [List.pairwise_cons] at ha hb
   have none_a:∀ x,lessL x t.1=true→posOf (t::r) x=[]:=fun x hx=>posOf_none fun v hv e=>by
    rcases List.mem_cons.1 hv with rfl | hv
    ·rw [e] at hx;exact lessL_ne hx rfl
    ·have:=lessL_trans hx (ha.1 v hv);rw [e] at this;exact lessL_ne this rfl
   have none_b:∀ x,lessL x u.1=true→posOf (u::q) x=[]:=fun x hx=>posOf_none fun v hv e=>by
    rcases List.mem_cons.1 hv with rfl | hv
    ·rw [e] at hx;exact lessL_ne hx rfl
    ·have:=lessL_trans hx (hb.1 v hv);rw [e] at this;exact lessL_ne this rfl
   have e1:t.1=u.1:=by
    apply Classical.byContradiction
    intro hn
    cases hl:lessL t.1 u.1 with
    | true =>
      have h3:=h t.1
      rw [none_b t.1 hl,posOf,if_pos rfl] at h3
      exact h1 t (by simp) h3
    | false =>
      have h3:=h u.1
      rw [none_a u.1 (lessL_total hl hn)] at h3
      rw [posOf,if_pos rfl] at h3
      exact h2 u (by simp) h3.symm
   have e2:t.2=u.2:=by
    have h3:=h t.1
    rw [posOf,if_pos rfl,posOf,if_pos e1.symm] at h3
    exact h3
   have e3:t=u:=Prod.ext e1 e2
   subst e3
   have hr:r=q:=rising_unique ha.2 hb.2 (fun v hv=>h1 v (by simp [hv])) (fun v hv=>h2 v (by simp [hv])) (fun x=>by
    have h3:=h x
    rw [posOf,posOf] at h3
    by_cases hx:t.1=x
    ·subst hx
     rw [posOf_none fun v hv e=>by have:=ha.1 v hv;rw [e] at this;exact lessL_ne this rfl,posOf_none fun v hv e=>by have:=hb.1 v hv;rw [e] at this;exact lessL_ne this rfl]
    ·rw [if_neg hx,if_neg hx] at h3
     exact h3)
   rw [hr]
def placesT (l:List (Tr α)):List α:=l.flatMap (·.2)
theorem addP_perm:∀ (l:List (Tr α)) (s:List UInt8) (p:α),(placesT (addP l s p)).Perm (placesT l++[p])
 | [],s,p=>by simp [addP,placesT]
 | t::r,s,p=>by
   rw [addP]
   split
   ·show (t.2++placesT (addP r s p)).Perm ((t.2++placesT r)++[p])
    rw [List.append_assoc]
    exact List.Perm.append_left _ (addP_perm r s p)
   ·split
    ·show ((t.2++[p])++placesT r).Perm ((t.2++placesT r)++[p])
     rw [List.append_assoc,List.append_assoc]
     exact List.Perm.append_left _ List.perm_append_comm
    ·show ([p]++(t.2++placesT r)).Perm ((t.2++placesT r)++[p])
     exact List.perm_append_comm
theorem foldP_perm:∀ (qs:List (List UInt8×α)) (l:List (Tr α)),(placesT (foldP l qs)).Perm (placesT l++qs.map (·.2))
 | [],l=>by simp [foldP]
 | q::qs,l=>by
   have e:foldP l (q::qs)=foldP (addP l q.1 q.2) qs:=rfl
   rw [e]
   refine (foldP_perm qs _).trans ?_
   refine (List.Perm.append_right _ (addP_perm l q.1 q.2)).trans ?_
   rw [List.append_assoc]
   exact List.Perm.refl _
def allF (fs:List Fld):List Int:=(pairsF 0 fs).map (·.2)
theorem termsF_perm (fs:List Fld):(placesT (termsF fs)).Perm (allF fs):=by
 exact foldP_perm (pairsF 0 fs) []
theorem pairsW_snd (n:List UInt8) (ws:List (List UInt8)) (base:Int):(pairsW n ws base).map (·.2)=(List.range ws.length).map (fun k:Nat=>base+(k:Int)):=by
 apply List.ext_getElem
 ·simp [pairsW]
 ·intro i h1 h2
  simp [pairsW]
theorem pairsF_bounds:∀ (fs:List Fld) (base:Int),∀ v∈(pairsF base fs).map (·.2),base≤v
 | [],base,v,h=>by simp [pairsF] at h
 | f::r,base,v,h=>by
   rw [pairsF,List.map_append,List.mem_append,pairsW_snd] at h
   rcases h with h | h
   ·obtain ⟨k,_,rfl⟩:=List.mem_map.1 h
    omega
   ·have:=pairsF_bounds r _ v h
    omega
theorem pairsF_rise:∀ (fs:List Fld) (base:Int),((pairsF base fs).map (·.2)).Pairwise (·<·)
 | [],base=>by simp [pairsF]
 | f::r,base=>by
   rw [pairsF,List.map_append,List.pairwise_append,pairsW_snd]
   refine ⟨?_,pairsF_rise r _,?_⟩
   ·rw [List.pairwise_map]
    exact List.pairwise_lt_range.imp fun h=>by omega
   ·intro a ha b hb
    obtain ⟨k,hk,rfl⟩:=List.mem_map.1 ha
    have:=pairsF_bounds r _ b hb
    have:=List.mem_range.1 hk
    omega
theorem allF_nodup (fs:List Fld):(allF fs).Nodup:=(pairsF_rise fs 0).imp fun h=>by omega
def wordsN (fs:List Fld):Nat:=(fs.map fun f=>(wordsB f.2).length).sum
theorem pairsF_len:∀ (fs:List Fld) (base:Int),(pairsF base fs).length=wordsN fs
 | [],base=>rfl
 | f::r,base=>by
   rw [pairsF,List.length_append,pairsF_len r]
   simp [pairsW,wordsN]
theorem places_len (fs:List Fld):(placesT (termsF fs)).length=wordsN fs:=by
 rw [(termsF_perm fs).length_eq]
 unfold allF
 rw [List.length_map,pairsF_len]
end Go.Proofs.YtidhgicajlaafaaGreat.EM
