import Derived.Test.YtdijhifdjbnkfaaGreatZD6
set_option maxRecDepth 100000
set_option maxHeartbeats 8000000
set_option linter.unusedVariables false
set_option linter.unusedSimpArgs false
namespace Go.Proofs.YtdijhifdjbnkfaaGreat.EM
open Go
open TK (Zza)
def Znl:List UInt8→List UInt8→Bool
 | [],[]=>false
 | [],_::_=>true
 | _::_,[]=>false
 | a::x,b::y=>if a=b then Znl x y else decide (a.toNat<b.toNat)
theorem Znp:∀ x,Znl x x=false
 | []=>rfl
 | a::x=>by rw [Znl,if_pos rfl,Znp x]
theorem Zns:∀ {x y z},Znl x y=true→Znl y z=true→Znl x z=true
 | [],[],_,h,_=>by simp [Znl] at h
 | [],_::_,[],_,h=>by simp [Znl] at h
 | [],_::_,_::_,_,_=>rfl
 | _::_,[],_,h,_=>by simp [Znl] at h
 | _::_,_::_,[],_,h=>by simp [Znl] at h
 | a::x,b::y,c::z,h1,h2=>by
   rw [Znl] at h1 h2 ⊢
   by_cases e1:a=b
   ·subst e1
    rw [if_pos rfl] at h1
    by_cases e2:a=c
    ·subst e2
     rw [if_pos rfl] at h2 ⊢
     exact Zns h1 h2
    ·rw [if_neg e2] at h2 ⊢
     exact h2
   ·rw [if_neg e1] at h1
    have h1':=of_decide_eq_true h1
    by_cases e2:b=c
    ·subst e2
     rw [if_neg e1]
     exact h1
    ·rw [if_neg e2] at h2
     have h2':=of_decide_eq_true h2
     have e3:a≠c:=by rintro rfl;omega
     rw [if_neg e3]
     exact decide_eq_true (by omega)
theorem Znr:∀ {x y},Znl x y=false→x≠y→Znl y x=true
 | [],[],_,h=>absurd rfl h
 | [],_::_,h,_=>by simp [Znl] at h
 | _::_,[],_,_=>rfl
 | a::x,b::y,h,hn=>by
   rw [Znl] at h ⊢
   by_cases e:a=b
   ·subst e
    rw [if_pos rfl] at h ⊢
    exact Znr h (fun e2=>hn (by rw [e2]))
   ·rw [if_neg e] at h
    rw [if_neg (fun e2=>e e2.symm)]
    have h':=of_decide_eq_false h
    have:a.toNat≠b.toNat:=fun e2=>e (UInt8.toNat_inj.1 e2)
    exact decide_eq_true (by omega)
theorem Znq {x y:List UInt8} (h:Znl x y=true):x≠y:=by rintro rfl;rw [Znp] at h;cases h
theorem Znm {x y:List UInt8} (h:Znl x y=true):Znl y x=false:=by
 cases hh:Znl y x with
 | false=>rfl
 | true=>have:=Zns h hh;rw [Znp] at this;cases this
theorem Znt:∀ x y,Op.bytesLess x y=Znl x y
 | [],[]=>by simp [Op.bytesLess,Znl]
 | [],_::_=>by simp [Op.bytesLess,Znl]
 | _::_,[]=>by simp [Op.bytesLess,Znl]
 | a::x,b::y=>by
   rw [Op.bytesLess,Znl,Znt x y]
   by_cases e:a=b
   ·subst e
    simp
   ·have:a.toNat≠b.toNat:=fun e2=>e (UInt8.toNat_inj.1 e2)
    simp [e,UInt8.lt_iff_toNat_lt]
theorem Znn {x y:List UInt8} {i:Nat} (hx:i<x.length) (hy:i<y.length):Znl (x.drop i) (y.drop i)=if x[i]=y[i] then Znl (x.drop (i+1)) (y.drop (i+1)) else decide (x[i].toNat<y[i].toNat):=by
 rw [List.drop_eq_getElem_cons hx,List.drop_eq_getElem_cons hy,Znl]
theorem Zno {x y:List UInt8} {i:Nat} (h:x.length≤i∨y.length≤i) (hi:i≤x.length) (hj:i≤y.length):Znl (x.drop i) (y.drop i)=decide (x.length<y.length):=by
 rcases h with h | h
 ·rw [List.drop_of_length_le h]
  cases hd:y.drop i with
  | nil =>
    have:=congrArg List.length hd
    rw [List.length_drop] at this
    simp at this
    rw [Znl]
    exact (decide_eq_false (by omega)).symm
  | cons c r =>
    have:=congrArg List.length hd
    rw [List.length_drop] at this
    simp at this
    rw [Znl]
    exact (decide_eq_true (by omega)).symm
 ·rw [List.drop_of_length_le (l:=y) h]
  cases hd:x.drop i with
  | nil =>
    have:=congrArg List.length hd
    rw [List.length_drop] at this
    simp at this
    rw [Znl]
    exact (decide_eq_false (by omega)).symm
  | cons c r =>
    rw [Znl]
    exact (decide_eq_false (by omega)).symm
abbrev Tr (α:Type):=List UInt8×List α
abbrev Trm:=Tr Int
variable {α : Type}
def addP:List (Tr α)→List UInt8→α→List (Tr α)
 | [],s,p=>[(s,[p])]
 | t::r,s,p=>if Znl t.1 s=true then t::addP r s p else if t.1=s then (s,t.2++[p])::r else (s,[p])::t::r
theorem ZbU:∀ {l:List (Tr α)} {s:List UInt8} {k:Nat} (p:α) (hk:k<l.length),(∀ j (hj:j<l.length),j<k→Znl l[j].1 s=true)→l[k].1=s →
  addP l s p=l.take k++(s,l[k].2++[p])::l.drop (k+1)
 | [],s,k,p,hk,_,_=>by simp at hk
 | t::r,s,0,p,_,_,h=>by
   simp only [List.getElem_cons_zero] at h
   rw [addP,if_neg (by rw [h,Znp];exact Bool.false_ne_true),if_pos h]
   simp
 | t::r,s,k+1,p,hk,h1,h2=>by
   have ht:=h1 0 (by simp) (by omega)
   simp only [List.getElem_cons_zero] at ht
   rw [addP,if_pos ht,ZbU (l:=r) (s:=s) (k:=k) p (by simpa using hk) (fun j hj hjk=>h1 (j+1) (Nat.succ_lt_succ hj) (by omega)) (by simpa using h2)]
   simp
theorem ZbY:∀ {l:List (Tr α)} {s:List UInt8} {k:Nat} (p:α),k≤l.length→(∀ j (hj:j<l.length),j<k→Znl l[j].1 s=true)→(∀ hk:k<l.length,Znl l[k].1 s=false∧l[k].1≠s) →
  addP l s p=l.take k++(s,[p])::l.drop k
 | [],s,k,p,hk,_,_=>by
   have:k=0:=by simpa using hk
   subst this
   simp [addP]
 | t::r,s,0,p,_,_,h=>by
   have h0:=h (by simp)
   simp only [List.getElem_cons_zero] at h0
   rw [addP,if_neg (by rw [h0.1];exact Bool.false_ne_true),if_neg h0.2]
   simp
 | t::r,s,k+1,p,hk,h1,h2=>by
   have ht:=h1 0 (by simp) (by omega)
   simp only [List.getElem_cons_zero] at ht
   rw [addP,if_pos ht,ZbY (l:=r) (s:=s) (k:=k) p (by simpa using hk) (fun j hj hjk=>h1 (j+1) (Nat.succ_lt_succ hj) (by omega)) (fun hk=>h2 (Nat.succ_lt_succ hk))]
   simp
def Zjj (l:List (Tr α)) (qs:List (List UInt8×α)):List (Tr α):=qs.foldl (fun l q=>addP l q.1 q.2) l
theorem Zjk (l:List (Tr α)) (a b:List (List UInt8×α)):Zjj l (a++b)=Zjj (Zjj l a) b:=by simp [Zjj]
theorem Zjo (l:List (Tr α)) (s:List UInt8) (p:α):Zjj l [(s,p)]=addP l s p:=rfl
def ZqQ (n:List UInt8) (ws:List (List UInt8)) (base:Int):List (List UInt8×Int):=ws.zipIdx.map fun p=>(n++58::p.1,base+(p.2:Int))
theorem ZqR (n:List UInt8) {ws:List (List UInt8)} {k:Nat} (hk:k<ws.length) (base:Int):ZqQ n (ws.take (k+1)) base=ZqQ n (ws.take k) base++[(n++58::ws[k],base+(k:Int))]:=by
 unfold ZqQ
 rw [List.take_succ_eq_append_getElem hk,List.zipIdx_append,List.map_append]
 simp [Nat.min_eq_left (Nat.le_of_lt hk)]
def ZqA:Int→List Fld→List (List UInt8×Int)
 | _,[]=>[]
 | base,f::r=>ZqQ f.1 (Zza f.2) base++ZqA (base+((Zza f.2).length:Int)+64) r
def ZcC (fs:List Fld):Int:=(fs.map fun f=>((Zza f.2).length:Int)+64).sum
theorem ZcE {fs:List Fld} {k:Nat} (hk:k<fs.length):ZcC (fs.take (k+1))=ZcC (fs.take k)+((Zza fs[k].2).length:Int)+64:=by
 unfold ZcC
 rw [List.take_succ_eq_append_getElem hk,List.map_append,List.sum_append]
 simp
 omega
theorem ZqC:∀ (a b:List Fld) (base:Int),ZqA base (a++b)=ZqA base a++ZqA (base+ZcC a) b
 | [],b,base=>by simp [ZqA,ZcC]
 | f::a,b,base=>by
   rw [List.cons_append,ZqA,ZqA,ZqC a b,List.append_assoc]
   congr 3
   simp [ZcC]
   omega
theorem ZqG {fs:List Fld} {k:Nat} (hk:k<fs.length):ZqA 0 (fs.take (k+1))=ZqA 0 (fs.take k)++ZqQ fs[k].1 (Zza fs[k].2) (ZcC (fs.take k)):=by
 rw [List.take_succ_eq_append_getElem hk,ZqC,ZqA,ZqA,List.append_nil,Int.zero_add]
def Zxi (fs:List Fld):List Trm:=Zjj [] (ZqA 0 fs)
def Zxa (e:Ev):List Trm:=if ZeD e≠0 then [] else Zxi e.2
def Zbl (l:List (Tr α)):Prop:=l.Pairwise fun a b=>Znl a.1 b.1=true
theorem ZbX:∀ {l:List (Tr α)} {s:List UInt8} {p:α} {t:Tr α},t∈addP l s p→t.1=s∨∃ u∈l,u.1=t.1
 | [],s,p,t,h=>by simp [addP] at h;exact .inl (by rw [h])
 | u::r,s,p,t,h=>by
   rw [addP] at h
   split at h
   ·rcases List.mem_cons.1 h with rfl | h
    ·exact .inr ⟨t,by simp,rfl⟩
    ·rcases ZbX h with h | ⟨v,hv,he⟩
     ·exact .inl h
     ·exact .inr ⟨v,by simp [hv],he⟩
   ·split at h
    ·rcases List.mem_cons.1 h with rfl | h
     ·exact .inl rfl
     ·exact .inr ⟨t,by simp [h],rfl⟩
    ·rcases List.mem_cons.1 h with rfl | h
     ·exact .inl rfl
     ·exact .inr ⟨t,by simpa using h,rfl⟩
theorem Zb1:∀ {l:List (Tr α)} (s:List UInt8) (p:α),Zbl l→Zbl (addP l s p)
 | [],s,p,_=>by simp [addP,Zbl]
 | t::r,s,p,h=>by
   unfold Zbl at h ⊢
   rw [addP]
   rw [List.pairwise_cons] at h
   split
   ·rename_i ht
    rw [List.pairwise_cons]
    refine ⟨fun u hu => ?_,Zb1 s p h.2⟩
    rcases ZbX hu with hu | ⟨v,hv,he⟩
    ·rw [hu];exact ht
    ·rw [← he];exact h.1 v hv
   ·split
    ·rename_i h1 h2
     rw [List.pairwise_cons]
     exact ⟨fun u hu=>by rw [← h2];exact h.1 u hu,h.2⟩
    ·rename_i h1 h2
     have hs:Znl s t.1=true:=Znr (by simpa using h1) h2
     rw [List.pairwise_cons,List.pairwise_cons]
     refine ⟨fun u hu => ?_,h.1,h.2⟩
     rcases List.mem_cons.1 hu with rfl | hu
     ·exact hs
     ·exact Zns hs (h.1 u hu)
theorem Zjq:∀ (qs:List (List UInt8×α)) {l:List (Tr α)},Zbl l→Zbl (Zjj l qs)
 | [],_,h=>h
 | q::qs,l,h=>Zjq qs (Zb1 q.1 q.2 h)
def Zrf:List (Tr α)→List UInt8→List α
 | [],_=>[]
 | t::r,s=>if t.1=s then t.2 else Zrf r s
theorem Zrm:∀ {l:List (Tr α)} {s:List UInt8},(∀ t∈l,t.1≠s)→Zrf l s=[]
 | [],_,_=>rfl
 | t::r,s,h=>by
   rw [Zrf,if_neg (h t (by simp))]
   exact Zrm fun u hu=>h u (by simp [hu])
theorem Zrg:∀ {l:List (Tr α)} (s:List UInt8) (p:α) (x:List UInt8),Zbl l→Zrf (addP l s p) x=if x=s then Zrf l s++[p] else Zrf l x
 | [],s,p,x,_=>by
   simp only [addP,Zrf]
   by_cases h:s=x
   ·subst h;simp
   ·rw [if_neg h,if_neg (fun e=>h e.symm)]
 | t::r,s,p,x,h=>by
   unfold Zbl at h
   rw [List.pairwise_cons] at h
   rw [addP]
   split
   ·rename_i ht
    have hne:=Znq ht
    rw [Zrf,Zrg s p x h.2]
    by_cases hx:x=s
    ·subst hx
     rw [if_neg hne,if_pos rfl,if_pos rfl,Zrf,if_neg hne]
    ·rw [if_neg hx,if_neg hx,Zrf]
   ·split
    ·rename_i h1 h2
     by_cases hx:x=s
     ·subst hx
      simp only [Zrf,h2,if_true]
     ·simp only [Zrf]
      rw [if_neg (fun e=>hx e.symm),if_neg hx,if_neg (fun e=>hx (by rw [← h2,e]))]
    ·rename_i h1 h2
     by_cases hx:x=s
     ·subst hx
      have hs:Znl x t.1=true:=Znr (by simpa using h1) h2
      have hn:Zrf (t::r) x=[]:=Zrm fun u hu e=>by
       rcases List.mem_cons.1 hu with rfl | hu
       ·exact h2 e
       ·have:=Zns hs (h.1 u hu)
        rw [e] at this
        exact Znq this rfl
      rw [Zrf,if_pos rfl,if_pos rfl,hn]
      rfl
     ·rw [Zrf,if_neg (fun e=>hx e.symm),if_neg hx]
theorem Zrh:∀ (qs:List (List UInt8×α)) {l:List (Tr α)} (x:List UInt8),Zbl l→Zrf (Zjj l qs) x=Zrf l x++(qs.filter (fun q=>q.1=x)).map (·.2)
 | [],l,x,_=>by simp [Zjj]
 | q::qs,l,x,h=>by
   have e:Zjj l (q::qs)=Zjj (addP l q.1 q.2) qs:=rfl
   rw [e,Zrh qs x (Zb1 _ _ h),Zrg _ _ _ h]
   by_cases hx:x=q.1
   ·subst hx
    simp
   ·rw [if_neg hx,List.filter_cons_of_neg (by simpa using fun e=>hx e.symm)]
theorem Zxl (fs:List Fld) (x:List UInt8):Zrf (Zxi fs) x=((ZqA 0 fs).filter (fun q=>q.1=x)).map (·.2):=by
 unfold Zxi
 rw [Zrh _ _ (by simp [Zbl])]
 rfl
theorem Zxm (fs:List Fld):Zbl (Zxi fs):=Zjq _ (by simp [Zbl])
theorem ZbZ:∀ {l:List (Tr α)} (s:List UInt8) (p:α),(∀ t∈l,t.2≠[])→∀ t∈addP l s p,t.2≠[]
 | [],s,p,_=>by simp [addP]
 | u::r,s,p,h=>by
   intro t ht
   rw [addP] at ht
   split at ht
   ·rcases List.mem_cons.1 ht with rfl | ht
    ·exact h t (by simp)
    ·exact ZbZ s p (fun v hv=>h v (by simp [hv])) t ht
   ·split at ht
    ·rcases List.mem_cons.1 ht with rfl | ht
     ·simp
     ·exact h t (by simp [ht])
    ·rcases List.mem_cons.1 ht with rfl | ht
     ·simp
     ·exact h t (by simpa using ht)
theorem Zjn:∀ (qs:List (List UInt8×α)) {l:List (Tr α)},(∀ t∈l,t.2≠[])→∀ t∈Zjj l qs,t.2≠[]
 | [],_,h=>h
 | q::qs,l,h=>Zjn qs (ZbZ q.1 q.2 h)
theorem Zxj (fs:List Fld):∀ t∈Zxi fs,t.2≠[]:=Zjn _ (by simp)
theorem Ztz:∀ {a b:List (Tr α)},Zbl a→Zbl b→(∀ t∈a,t.2≠[])→(∀ t∈b,t.2≠[])→(∀ x,Zrf a x=Zrf b x)→a=b
 | [],[],_,_,_,_,_=>rfl
 | [],t::r,_,_,_,h2,h=>by
   have:=h t.1
   rw [Zrf,Zrf,if_pos rfl] at this
   exact absurd this.symm (h2 t (by simp))
 | t::r,[],_,_,h1,_,h=>by
   have:=h t.1
   rw [Zrf,Zrf,if_pos rfl] at this
   exact absurd this (h1 t (by simp))
 | t::r,u::q,ha,hb,h1,h2,h=>by
   unfold Zbl at ha hb
   rw [List.pairwise_cons] at ha hb
   have none_a:∀ x,Znl x t.1=true→Zrf (t::r) x=[]:=fun x hx=>Zrm fun v hv e=>by
    rcases List.mem_cons.1 hv with rfl | hv
    ·rw [e] at hx;exact Znq hx rfl
    ·have:=Zns hx (ha.1 v hv);rw [e] at this;exact Znq this rfl
   have none_b:∀ x,Znl x u.1=true→Zrf (u::q) x=[]:=fun x hx=>Zrm fun v hv e=>by
    rcases List.mem_cons.1 hv with rfl | hv
    ·rw [e] at hx;exact Znq hx rfl
    ·have:=Zns hx (hb.1 v hv);rw [e] at this;exact Znq this rfl
   have e1:t.1=u.1:=by
    apply Classical.byContradiction
    intro hn
    cases hl:Znl t.1 u.1 with
    | true =>
      have h3:=h t.1
      rw [none_b t.1 hl,Zrf,if_pos rfl] at h3
      exact h1 t (by simp) h3
    | false =>
      have h3:=h u.1
      rw [none_a u.1 (Znr hl hn)] at h3
      rw [Zrf,if_pos rfl] at h3
      exact h2 u (by simp) h3.symm
   have e2:t.2=u.2:=by
    have h3:=h t.1
    rw [Zrf,if_pos rfl,Zrf,if_pos e1.symm] at h3
    exact h3
   have e3:t=u:=Prod.ext e1 e2
   subst e3
   have hr:r=q:=Ztz ha.2 hb.2 (fun v hv=>h1 v (by simp [hv])) (fun v hv=>h2 v (by simp [hv])) (fun x=>by
    have h3:=h x
    rw [Zrf,Zrf] at h3
    by_cases hx:t.1=x
    ·subst hx
     rw [Zrm fun v hv e=>by have:=ha.1 v hv;rw [e] at this;exact Znq this rfl,Zrm fun v hv e=>by have:=hb.1 v hv;rw [e] at this;exact Znq this rfl]
    ·rw [if_neg hx,if_neg hx] at h3
     exact h3)
   rw [hr]
def Zq8 (l:List (Tr α)):List α:=l.flatMap (·.2)
theorem Zb0:∀ (l:List (Tr α)) (s:List UInt8) (p:α),(Zq8 (addP l s p)).Perm (Zq8 l++[p])
 | [],s,p=>by simp [addP,Zq8]
 | t::r,s,p=>by
   rw [addP]
   split
   ·show (t.2++Zq8 (addP r s p)).Perm ((t.2++Zq8 r)++[p])
    rw [List.append_assoc]
    exact List.Perm.append_left _ (Zb0 r s p)
   ·split
    ·show ((t.2++[p])++Zq8 r).Perm ((t.2++Zq8 r)++[p])
     rw [List.append_assoc,List.append_assoc]
     exact List.Perm.append_left _ List.perm_append_comm
    ·show ([p]++(t.2++Zq8 r)).Perm ((t.2++Zq8 r)++[p])
     exact List.perm_append_comm
theorem Zjp:∀ (qs:List (List UInt8×α)) (l:List (Tr α)),(Zq8 (Zjj l qs)).Perm (Zq8 l++qs.map (·.2))
 | [],l=>by simp [Zjj]
 | q::qs,l=>by
   have e:Zjj l (q::qs)=Zjj (addP l q.1 q.2) qs:=rfl
   rw [e]
   refine (Zjp qs _).trans ?_
   refine (List.Perm.append_right _ (Zb0 l q.1 q.2)).trans ?_
   rw [List.append_assoc]
   exact List.Perm.refl _
def allF (fs:List Fld):List Int:=(ZqA 0 fs).map (·.2)
theorem Zxk (fs:List Fld):(Zq8 (Zxi fs)).Perm (allF fs):=by
 exact Zjp (ZqA 0 fs) []
theorem ZqS (n:List UInt8) (ws:List (List UInt8)) (base:Int):(ZqQ n ws base).map (·.2)=(List.range ws.length).map (fun k:Nat=>base+(k:Int)):=by
 apply List.ext_getElem
 ·simp [ZqQ]
 ·intro i h1 h2
  simp [ZqQ]
theorem ZqD:∀ (fs:List Fld) (base:Int),∀ v∈(ZqA base fs).map (·.2),base≤v
 | [],base,v,h=>by simp [ZqA] at h
 | f::r,base,v,h=>by
   rw [ZqA,List.map_append,List.mem_append,ZqS] at h
   rcases h with h | h
   ·obtain ⟨k,_,rfl⟩:=List.mem_map.1 h
    omega
   ·have:=ZqD r _ v h
    omega
theorem ZqH:∀ (fs:List Fld) (base:Int),((ZqA base fs).map (·.2)).Pairwise (·<·)
 | [],base=>by simp [ZqA]
 | f::r,base=>by
   rw [ZqA,List.map_append,List.pairwise_append,ZqS]
   refine ⟨?_,ZqH r _,?_⟩
   ·rw [List.pairwise_map]
    exact List.pairwise_lt_range.imp fun h=>by omega
   ·intro a ha b hb
    obtain ⟨k,hk,rfl⟩:=List.mem_map.1 ha
    have:=ZqD r _ b hb
    have:=List.mem_range.1 hk
    omega
def Zzc (fs:List Fld):Nat:=(fs.map fun f=>(Zza f.2).length).sum
theorem ZqE:∀ (fs:List Fld) (base:Int),(ZqA base fs).length=Zzc fs
 | [],base=>rfl
 | f::r,base=>by
   rw [ZqA,List.length_append,ZqE r]
   simp [ZqQ,Zzc]
theorem Zrc (fs:List Fld):(Zq8 (Zxi fs)).length=Zzc fs:=by
 rw [(Zxk fs).length_eq]
 unfold allF
 rw [List.length_map,ZqE]
end Go.Proofs.YtdijhifdjbnkfaaGreat.EM
namespace Go.Proofs.YtdijhifdjbnkfaaGreat.DM
open Go VM
open EM (Znl Znp Zns Znr Znq Zky)
abbrev Ent:=List UInt8×(Int×(Int×Int))
def Zq5 (z:Int):Bool:=decide (0≤z)&&decide (z≤67108864)
def okX (x:Ent):Bool:=decide (1≤x.1.length)&&decide (x.1.length≤65)&&Zq5 x.2.1&&Zq5 x.2.2.1&&Zq5 x.2.2.2
theorem Zq6 {z:Int}:Zq5 z=true↔0≤z∧z≤67108864:=by simp [Zq5]
theorem Zpy {x:Ent}:okX x=true↔(1≤x.1.length∧x.1.length≤65)∧(0≤x.2.1∧x.2.1≤67108864)∧(0≤x.2.2.1∧x.2.2.1≤67108864)∧(0≤x.2.2.2∧x.2.2.2≤67108864):=by
 unfold okX
 simp only [Bool.and_eq_true,decide_eq_true_eq,Zq6]
 constructor
 ·rintro ⟨⟨⟨⟨h1,h2⟩,h3⟩,h4⟩,h5⟩;exact ⟨⟨h1,h2⟩,h3,h4,h5⟩
 ·rintro ⟨⟨h1,h2⟩,h3,h4,h5⟩;exact ⟨⟨⟨⟨h1,h2⟩,h3⟩,h4⟩,h5⟩
def Ztr (p:Option (List UInt8)) (t:List UInt8):Bool:=match p with
 | none=>true
 | some q=>Znl q t
def areR:Option (List UInt8)→List Ent→Bool
 | _,[]=>true
 | p,x::r=>okX x&&Ztr p x.1&&areR (some x.1) r
theorem Zcv (p:Option (List UInt8)) (x:Ent) (r:List Ent):areR p (x::r)=(okX x&&Ztr p x.1&&areR (some x.1) r):=by cases p<;>rfl
def areD (l:List Ent):Bool:=decide (l.length≤262144)&&areR none l
def ZvE:List UInt8→List UInt8→Nat
 | a::x,b::y=>if a=b then ZvE x y+1 else 0
 | _,_=>0
theorem ZvG:∀ x y,ZvE x y≤x.length∧ZvE x y≤y.length
 | [],_=>by simp [ZvE]
 | _::_,[]=>by simp [ZvE]
 | a::x,b::y=>by
   rw [ZvE]
   have:=ZvG x y
   split<;>simp<;>omega
theorem ZvH:∀ x y:List UInt8,x.take (ZvE x y)=y.take (ZvE x y)
 | [],_=>by simp [ZvE]
 | _::_,[]=>by simp [ZvE]
 | a::x,b::y=>by
   rw [ZvE]
   split
   ·rename_i h;subst h;simp [ZvH x y]
   ·rfl
theorem ZvF:∀ {x y:List UInt8} {k:Nat},k≤x.length→k≤y.length→(∀ i,i<k→x[i]? = y[i]?)→(k<x.length→k<y.length→x[k]? ≠ y[k]?)→ZvE x y=k
 | [],_,k,h,_,_,_=>by have:k=0:=(by simpa using h);subst this;simp [ZvE]
 | _::_,[],k,_,h,_,_=>by have:k=0:=(by simpa using h);subst this;simp [ZvE]
 | a::x,b::y,0,_,_,_,h=>by
   have:=h (by simp) (by simp)
   rw [ZvE,if_neg (fun e=>this (by simp [e]))]
 | a::x,b::y,k+1,h1,h2,h3,h4=>by
   have h0:=h3 0 (by omega)
   have e:a=b:=by simpa using h0
   rw [ZvE,if_pos e,ZvF (k:=k) (by simpa using h1) (by simpa using h2) (fun i hi=>by simpa using h3 (i+1) (by omega)) (fun g1 g2=>by simpa using h4 (by simpa using g1) (by simpa using g2))]
def entB (ahead:List UInt8) (x:Ent):List UInt8:=Zd8 (ZvE ahead x.1)++(Zxu (x.1.drop (ZvE ahead x.1))++(Zd8 x.2.1.toNat++(Zd8 x.2.2.1.toNat++Zd8 x.2.2.2.toNat)))
def Zdm:List UInt8→List Ent→List UInt8
 | _,[]=>[]
 | ahead,x::r=>entB ahead x++Zdm x.1 r
theorem Zdo:∀ (ahead:List UInt8) (l:List Ent) (x:Ent),Zdm ahead (l++[x])=Zdm ahead l++entB ((l.getLast?.map (·.1)).getD ahead) x
 | ahead,[],x=>by simp [Zdm]
 | ahead,y::l,x=>by
   rw [List.cons_append,Zdm,Zdm,Zdo y.1 l x,List.append_assoc]
   cases l<;>simp [List.getLast?_cons]
def ZeK (l:List Ent) (j:Nat):List Ent:=(l.drop (16*j)).take 16
def ZeL (l:List Ent) (j:Nat):List UInt8:=Zd8 (Zdm [] (ZeK l j)).length++Zdm [] (ZeK l j)
def Ze3 (l:List Ent):Nat:=(l.length+15) / 16
def Ze1 (l:List Ent) (j:Nat):List UInt8:=((List.range (Ze3 l)).drop j).flatMap (ZeL l)
theorem Ze2 {l:List Ent} {j:Nat} (h:j<Ze3 l):Ze1 l j=ZeL l j++Ze1 l (j+1):=by
 unfold Ze1
 rw [List.drop_eq_getElem_cons (by simpa using h),List.flatMap_cons]
 simp
def encD (l:List Ent):List UInt8:=Zd8 l.length++Ze1 l 0
def getN (l:List UInt8) (most:Nat):Option (Nat×List UInt8):=if (getL l).2.2≠0∨most<(getL l).1 then none else some ((getL l).1,l.drop (getL l).2.1)
theorem Zkk {n most:Nat} (h:n≤most) (hn:n<18446744073709551616) (r:List UInt8):getN (Zd8 n++r) most=some (n,r):=by
 unfold getN
 rw [Zkj n hn r]
 dsimp only
 rw [List.drop_left,if_neg (by simp;omega)]
def rdX (ahead:List UInt8) (l:List UInt8):Option (Ent×List UInt8) :=
 match getN l ahead.length with
 | none=>none
 | some (k,l1) =>
   if (getT l1 65).2.2≠0 then none
   else match getN (l1.drop (getT l1 65).2.1) 67108864 with
    | none=>none
    | some (o,l2)=>match getN l2 67108864 with
      | none=>none
      | some (m,l3)=>match getN l3 67108864 with
        | none=>none
        | some (n,l4)=>some ((ahead.take k++(getT l1 65).1,((o:Int),((m:Int),(n:Int)))),l4)
theorem ZsK {ahead:List UInt8} {x:Ent} (h:okX x=true) (hl:ahead.length≤65) (r:List UInt8):rdX ahead (entB ahead x++r)=some (x,r):=by
 obtain ⟨⟨h1,h2⟩,h3,h4,h5⟩:=Zpy.1 h
 have hs:=ZvG ahead x.1
 unfold rdX entB
 simp only [List.append_assoc]
 rw [Zkk hs.1 (by omega)]
 dsimp only
 rw [ZkB (x.1.drop (ZvE ahead x.1)) (by rw [List.length_drop];omega) 65 (by rw [List.length_drop];omega)]
 dsimp only
 rw [if_neg (by simp),List.drop_left,Zkk (by omega) (by omega)]
 dsimp only
 rw [Zkk (by omega) (by omega)]
 dsimp only
 rw [Zkk (by omega) (by omega)]
 dsimp only
 rw [ZvH,List.take_append_drop]
 obtain ⟨t,o,m,n⟩:=x
 dsimp only at h3 h4 h5 ⊢
 rw [show ((o.toNat:Nat):Int)=o by omega,show ((m.toNat:Nat):Int)=m by omega,show ((n.toNat:Nat):Int)=n by omega]
def ZqV:Nat→Nat→List UInt8→List Ent→List UInt8→Option (List Ent)
 | 0,_,_,acc,_=>some acc
 | f+1,i,ahead,acc,l =>
   if i%16=0 then
    match getN l 1073741824 with
    | none=>none
    | some (_,l1)=>match rdX [] l1 with
      | none=>none
      | some (x,r)=>ZqV f (i+1) x.1 (acc++[x]) r
   else match rdX ahead l with
    | none=>none
    | some (x,r)=>ZqV f (i+1) x.1 (acc++[x]) r
def Zw0 (l:List Ent) (i:Nat):List UInt8 :=
 if i%16=0 then Ze1 l (i / 16) else Zdm ((l.getD (i - 1) ([],0,0,0)).1) ((l.drop i).take (16 - i%16))++Ze1 l (i / 16+1)
theorem Zdp {l:List Ent} {i k:Nat} (hi:i<l.length) (hk:0<k) (ahead:List UInt8):Zdm ahead ((l.drop i).take k)=entB ahead l[i]++Zdm l[i].1 ((l.drop (i+1)).take (k - 1)):=by
 obtain ⟨k,rfl⟩:∃ j,k=j+1:=⟨k - 1,by omega⟩
 rw [List.drop_eq_getElem_cons hi,List.take_succ_cons,Zdm]
 simp
theorem Zw3 {l:List Ent} {i:Nat} (hi:i<l.length):Zdm l[i].1 ((l.drop (i+1)).take (15 - i%16))++Ze1 l (i / 16+1)=Zw0 l (i+1):=by
 unfold Zw0
 by_cases h:(i+1)%16=0
 ·rw [if_pos h]
  have e:15 - i%16=0:=by omega
  rw [e,List.take_zero,Zdm,List.nil_append]
  congr 1
  omega
 ·rw [if_neg h]
  have e1:(i+1) / 16=i / 16:=by omega
  have e2:16 - (i+1)%16=15 - i%16:=by omega
  rw [e1,e2]
  congr 2
  simp [List.getD,hi]
theorem Zw2 {l:List Ent} {i:Nat} (hi:i<l.length) (h:¬ i%16=0):Zw0 l i=entB (l.getD (i - 1) ([],0,0,0)).1 l[i]++Zw0 l (i+1):=by
 conv=>lhs;unfold Zw0
 rw [if_neg h,Zdp hi (by omega),List.append_assoc,show 16 - i%16 - 1=15 - i%16 by omega,Zw3 hi]
theorem Zw1 {l:List Ent} {i:Nat} (hi:i<l.length) (h:i%16=0):Zw0 l i=Zd8 (Zdm [] (ZeK l (i / 16))).length++(entB [] l[i]++Zw0 l (i+1)):=by
 conv=>lhs;unfold Zw0
 rw [if_pos h,Ze2 (by unfold Ze3;omega)]
 unfold ZeL
 rw [List.append_assoc]
 congr 1
 unfold ZeK
 rw [show 16*(i / 16)=i by omega,Zdp hi (by omega),List.append_assoc,← Zw3 hi,show 16 - 1=15 - i%16 by omega]
theorem Zhq {ahead:List UInt8} {x:Ent} (h:okX x=true):(entB ahead x).length≤115:=by
 obtain ⟨⟨h1,h2⟩,_⟩:=Zpy.1 h
 unfold entB
 simp only [List.length_append]
 have b1:=Zea (ZvE ahead x.1)
 have b2:=Zea x.2.1.toNat
 have b3:=Zea x.2.2.1.toNat
 have b4:=Zea x.2.2.2.toNat
 have b5:=(EM.Zxv (x.1.drop (ZvE ahead x.1))).1
 rw [List.length_drop] at b5
 omega
theorem Zdn:∀ (l:List Ent) (ahead:List UInt8),(∀ x∈l,okX x=true)→(Zdm ahead l).length≤115*l.length
 | [],_,_=>by simp [Zdm]
 | x::r,ahead,h=>by
   rw [Zdm,List.length_append,List.length_cons]
   have h1:=Zhq (ahead:=ahead) (h x (by simp))
   have h2:=Zdn r x.1 fun y hy=>h y (by simp [hy])
   omega
theorem ZqW {l:List Ent} (h:∀ x∈l,okX x=true):∀ (f i:Nat) (ahead:List UInt8),i+f=l.length→(¬ i%16=0→ahead=(l.getD (i - 1) ([],0,0,0)).1)→ZqV f i ahead (l.take i) (Zw0 l i)=some l
 | 0,i,ahead,hf,_=>by
   rw [ZqV,List.take_of_length_le (by omega)]
 | f+1,i,ahead,hf,ha=>by
   have hi:i<l.length:=by omega
   have hx:=h l[i] (List.getElem_mem hi)
   have hnext:∀ a,a=l[i].1→ZqV f (i+1) a (l.take i++[l[i]]) (Zw0 l (i+1))=some l:=fun a e=>by
    rw [← List.take_succ_eq_append_getElem hi]
    refine ZqW h f (i+1) a (by omega) fun _ => ?_
    rw [e]
    simp [List.getD,hi]
   rw [ZqV]
   by_cases hm:i%16=0
   ·have hbl:(Zdm [] (ZeK l (i / 16))).length≤1840:=by
     have:=Zdn (ZeK l (i / 16)) [] fun x hx=>h x (List.mem_of_mem_drop (List.mem_of_mem_take hx))
     have h16:(ZeK l (i / 16)).length≤16:=by unfold ZeK;rw [List.length_take];omega
     omega
    rw [if_pos hm,Zw1 hi hm,Zkk (by omega) (by omega)]
    dsimp only
    rw [ZsK hx (by simp)]
    exact hnext _ rfl
   ·have hp:(l.getD (i - 1) ([],0,0,0)).1.length≤65:=by
     have hi2:i - 1<l.length:=by omega
     have e:l.getD (i - 1) ([],0,0,0)=l[i - 1]:=by simp [List.getD,hi2]
     rw [e]
     exact (Zpy.1 (h l[i - 1] (List.getElem_mem hi2))).1.2
    rw [if_neg hm,Zw2 hi hm,ha hm,ZsK hx hp]
    exact hnext _ rfl
def rdD (b:List UInt8):Option (List Ent):=match getN b 262144 with
 | none=>none
 | some (n,r)=>ZqV n 0 [] [] r
def decD (b:List UInt8):Option (List Ent):=match rdD b with
 | none=>none
 | some l=>if areD l=true∧encD l=b then some l else none
theorem Zcu:∀ {l:List Ent} {p:Option (List UInt8)},areR p l=true→∀ x∈l,okX x=true
 | [],_,_=>by simp
 | x::r,p,h=>by
   rw [Zcv,Bool.and_eq_true,Bool.and_eq_true] at h
   intro y hy
   rcases List.mem_cons.1 hy with rfl | hy
   ·exact h.1.1
   ·exact Zcu h.2 y hy
theorem Zct {l:List Ent} (h:areD l=true):l.length≤262144∧∀ x∈l,okX x=true:=by
 unfold areD at h
 rw [Bool.and_eq_true,decide_eq_true_eq] at h
 exact ⟨h.1,Zcu h.2⟩
theorem ZsE {l:List Ent} (h:areD l=true):rdD (encD l)=some l:=by
 obtain ⟨h1,h2⟩:=Zct h
 unfold rdD encD
 rw [Zkk h1 (by omega)]
 have:=ZqW h2 l.length 0 [] (by omega) (fun hn=>absurd rfl hn)
 simpa [Zw0] using this
theorem Zf4 {l:List Ent} (h:areD l=true):decD (encD l)=some l:=by
 unfold decD
 rw [ZsE h]
 simp [h]
theorem Zf2 {b:List UInt8} {l:List Ent} (h:decD b=some l):areD l=true∧encD l=b:=by
 unfold decD at h
 split at h
 ·cases h
 ·split at h
  ·rename_i hc
   obtain rfl:=Option.some.inj h
   exact hc
  ·cases h
theorem Zf3 {b:List UInt8} {l:List Ent}:decD b=some l↔areD l=true∧encD l=b:=⟨Zf2,fun ⟨h1,h2⟩=>by rw [← h2];exact Zf4 h1⟩
end Go.Proofs.YtdijhifdjbnkfaaGreat.DM
namespace Go.Proofs.YtdijhifdjbnkfaaGreat.SM
open Go VM
open EM (Fld Ev ZeD FitE ZdV ZdX getE Zj3 Zj2 ZpA ZvV ZvY ZeE)
open DM (getN Zkk)
abbrev Doc:=Int×Ev
def ZoQ:Doc:=(0,(0,[]))
def okS (last:Int) (d:Doc):Bool:=decide (last<d.1)&&decide (d.1≤1099511627776)&&decide (ZeD d.2=0)
theorem Zpx {last:Int} {d:Doc}:okS last d=true↔last<d.1∧d.1≤1099511627776∧ZeD d.2=0:=by
 unfold okS
 simp only [Bool.and_eq_true,decide_eq_true_eq,and_assoc]
def isR:Int→List Doc→Bool
 | _,[]=>true
 | last,d::r=>okS last d&&isR d.1 r
def isS (l:List Doc):Bool:=decide (l.length≤65536)&&isR 0 l
theorem ZmE {l:List Doc} {last:Int} {k:Nat} (hk:k<l.length):isR last (l.drop k)=(okS last l[k]&&isR l[k].1 (l.drop (k+1))):=by
 rw [List.drop_eq_getElem_cons hk,isR]
theorem ZmC (l:List Doc) (last:Int):isR last (l.drop l.length)=true:=by rw [List.drop_length,isR]
def Zm9 (l:List Doc):Nat→Int
 | 0=>0
 | k+1=>(l.getD k ZoQ).1
theorem Zna {l:List Doc} {k:Nat} (hk:k<l.length):Zm9 l (k+1)=l[k].1:=by simp [Zm9,List.getD,hk]
theorem ZmA:∀ {l:List Doc} {last:Int},isR last l=true→∀ (k:Nat) (hk:k<l.length),okS (if k=0 then last else Zm9 l k) l[k]=true
 | [],_,_,k,hk=>by simp at hk
 | d::r,last,h,0,hk=>by
   rw [isR,Bool.and_eq_true] at h
   exact h.1
 | d::r,last,h,k+1,hk=>by
   rw [isR,Bool.and_eq_true] at h
   have ih:=ZmA h.2 k (by simpa using hk)
   have e:(if k=0 then d.1 else Zm9 r k)=(if k+1=0 then last else Zm9 (d::r) (k+1)):=by
    cases k with
    | zero=>simp [Zm9]
    | succ k=>simp [Zm9]
   rw [← e]
   exact ih
theorem ZmH {l:List Doc}:isS l=true↔l.length≤65536∧isR 0 l=true:=by
 unfold isS
 rw [Bool.and_eq_true,decide_eq_true_eq]
theorem ZmG {l:List Doc} (h:isS l=true) {k:Nat} (hk:k<l.length):Zm9 l k<l[k].1∧l[k].1≤1099511627776∧ZeD l[k].2=0:=by
 have:=ZmA (ZmH.1 h).2 k hk
 have e:(if k=0 then 0 else Zm9 l k)=Zm9 l k:=by
  cases k with
  | zero=>simp [Zm9]
  | succ k=>simp
 rw [e] at this
 exact Zpx.1 this
theorem Znb {l:List Doc} (h:isS l=true):∀ {k:Nat},k≤l.length→0≤Zm9 l k∧Zm9 l k≤1099511627776
 | 0,_=>by simp [Zm9]
 | k+1,hk=>by
   have h1:=Znb h (k:=k) (by omega)
   have h2:=ZmG h (k:=k) (by omega)
   rw [Zna (by omega)]
   omega
theorem Ztt {l:List Doc} (h:isS l=true) {i:Nat}:∀ {j:Nat} (hi:i<l.length) (hj:j<l.length),i<j→l[i].1<l[j].1
 | 0,_,_,hij=>by omega
 | j+1,hi,hj,hij=>by
   have h2:=ZmG h hj
   rw [Zna (by omega)] at h2
   by_cases e:i=j
   ·subst e;exact h2.1
   ·have:=Ztt h (j:=j) hi (by omega) (by omega)
    omega
def oneB (l:List Doc) (k:Nat):List UInt8:=Zd8 ((l.getD k ZoQ).1 - Zm9 l k - 1).toNat++ZdV (l.getD k ZoQ).2
theorem ZpE {l:List Doc} {k:Nat} (hk:k<l.length):oneB l k=Zd8 (l[k].1 - Zm9 l k - 1).toNat++ZdV l[k].2:=by
 unfold oneB
 simp [List.getD,hk]
def Zsj (l:List Doc) (i k:Nat):List UInt8:=(List.range' i (k - i)).flatMap (oneB l)
theorem Zsq (l:List Doc) (i:Nat):Zsj l i i=[]:=by simp [Zsj]
theorem Zsp {l:List Doc} {i k:Nat} (h:i≤k):Zsj l i (k+1)=Zsj l i k++oneB l k:=by
 unfold Zsj
 rw [show k+1 - i=k - i+1 by omega,List.range'_1_concat,List.flatMap_append,show i+(k - i)=k by omega]
 simp
theorem Zsl {l:List Doc} {i k:Nat} (h:i<k):Zsj l i k=oneB l i++Zsj l (i+1) k:=by
 unfold Zsj
 rw [show k - i=(k - (i+1))+1 by omega,List.range'_succ,List.flatMap_cons]
theorem Zsk {l:List Doc} {i j:Nat} (h1:i≤j):∀ {k:Nat},j≤k→Zsj l i j++Zsj l j k=Zsj l i k
 | 0,h2=>by
   obtain rfl:j=0:=by omega
   obtain rfl:i=0:=by omega
   simp [Zsj]
 | k+1,h2=>by
   by_cases e:j=k+1
   ·subst e;rw [Zsq,List.append_nil]
   ·rw [Zsp (by omega),Zsp (by omega),← List.append_assoc,Zsk h1 (by omega)]
def endS (l:List Doc) (c:Nat):Nat:=min (16*c+16) l.length
def Zk9 (l:List Doc) (c:Nat):List UInt8:=Zd8 (Zm9 l (endS l c)).toNat++Zd8 (Zsj l (16*c) (endS l c)).length
def Zli (l:List Doc) (a c:Nat):List UInt8:=(List.range' a c).flatMap (Zk9 l)
theorem Zln (l:List Doc) (a:Nat):Zli l a 0=[]:=by simp [Zli]
theorem Zlm (l:List Doc) (a c:Nat):Zli l a (c+1)=Zli l a c++Zk9 l (a+c):=by
 unfold Zli
 rw [List.range'_1_concat,List.flatMap_append]
 simp
theorem Zlj (l:List Doc) (a c:Nat):Zli l a (c+1)=Zk9 l a++Zli l (a+1) c:=by
 unfold Zli
 rw [List.range'_succ,List.flatMap_cons]
def Zdt (n:Nat):Nat:=(n+15) / 16
def encS (l:List Doc):List UInt8:=Zd8 l.length++(Zli l 0 (Zdt l.length)++Zsj l 0 l.length)
theorem ZpF {l:List Doc} (h:isS l=true) {k:Nat} (hk:k<l.length):(oneB l k).length≤67000∧1≤(oneB l k).length:=by
 rw [ZpE hk,List.length_append]
 obtain ⟨h1,h2,h3⟩:=ZmG h hk
 obtain ⟨h4,h5⟩:=ZeE.1 h3
 have b1:=Zea (l[k].1 - Zm9 l k - 1).toNat
 have b2:=ZdX l[k].2
 have b3:=ZvY h5
 omega
theorem Zsn {l:List Doc} (h:isS l=true) {i:Nat}:∀ {k:Nat},i≤k→k≤l.length→(Zsj l i k).length≤67000*(k - i)∧k - i≤(Zsj l i k).length
 | 0,h1,_=>by
   obtain rfl:i=0:=by omega
   simp [Zsj]
 | k+1,h1,h2=>by
   by_cases e:i=k+1
   ·subst e;rw [Zsq];simp
   ·have ih:=Zsn h (i:=i) (k:=k) (by omega) (by omega)
    have b:=ZpF h (k:=k) (by omega)
    rw [Zsp (by omega),List.length_append]
    omega
def Zv9:Nat→List UInt8→Option (List UInt8)
 | 0,l=>some l
 | k+1,l=>match getN l 1099511627776 with
   | none=>none
   | some (_,x)=>match getN x 1099511627776 with
     | none=>none
     | some (_,y)=>Zv9 k y
def rdR:Nat→Int→List Doc→List UInt8→Option (List Doc)
 | 0,_,acc,_=>some acc
 | f+1,last,acc,l=>match getN l 1099511627776 with
   | none=>none
   | some (d,x)=>match getE x with
     | none=>none
     | some (e,y)=>rdR f (last+1+d) (acc++[(last+1+d,e)]) y
def rdS (b:List UInt8):Option (List Doc):=match getN b 65536 with
 | none=>none
 | some (n,r)=>if b.length<n then none else match Zv9 (Zdt n) r with
   | none=>none
   | some y=>rdR n 0 [] y
def decS (b:List UInt8):Option (List Doc):=match rdS b with
 | none=>none
 | some l=>if isS l=true∧encS l=b then some l else none
def FitS (l:List Doc):Prop:=∀ d∈l,FitE d.2
theorem Zwa {l:List Doc} (h:isS l=true):∀ (f c:Nat) (r:List UInt8),16*(c+f)≤l.length+15→Zv9 f (Zli l c f++r)=some r
 | 0,c,r,_=>by rw [Zln,Zv9];rfl
 | f+1,c,r,hc=>by
   have he:endS l c≤l.length:=by unfold endS;omega
   have hs:16*c≤endS l c:=by unfold endS;omega
   have hd:endS l c - 16*c≤16:=by unfold endS;omega
   have h1:=Znb h he
   have h2:=Zsn h hs he
   rw [Zlj,Zv9]
   unfold Zk9
   simp only [List.append_assoc]
   rw [Zkk (by omega) (by omega)]
   dsimp only
   rw [Zkk (by omega) (by omega)]
   dsimp only
   exact Zwa h f (c+1) r (by omega)
theorem ZsI {l:List Doc} (h:isS l=true) (hf:FitS l) (r:List UInt8):∀ (f k:Nat),k+f=l.length→rdR f (Zm9 l k) (l.take k) (Zsj l k l.length++r)=some l
 | 0,k,hk=>by
   rw [rdR,List.take_of_length_le (by omega)]
 | f+1,k,hk=>by
   have hk':k<l.length:=by omega
   obtain ⟨h1,h2,h3⟩:=ZmG h hk'
   have h0:=Znb h (k:=k) (by omega)
   rw [rdR,Zsl hk',ZpE hk']
   simp only [List.append_assoc]
   rw [Zkk (by omega) (by omega)]
   dsimp only
   rw [Zj3 (hf _ (List.getElem_mem hk')) h3]
   dsimp only
   have e:Zm9 l k+1+((l[k].1 - Zm9 l k - 1).toNat:Nat)=l[k].1:=by omega
   rw [e]
   have:=ZsI h hf r f (k+1) (by omega)
   rw [Zna hk',List.take_succ_eq_append_getElem hk'] at this
   exact this
theorem Zg0 {l:List Doc} (h:isS l=true):l.length<(encS l).length:=by
 unfold encS
 simp only [List.length_append]
 have h1:=Zea l.length
 have h2:=(Zsn h (i:=0) (k:=l.length) (by omega) (by omega)).2
 omega
theorem ZsJ {l:List Doc} (h:isS l=true) (hf:FitS l) (r:List UInt8):rdS (encS l++r)=some l:=by
 have hl:=Zg0 h
 have h1:=(ZmH.1 h).1
 unfold rdS
 have e:encS l++r=Zd8 l.length++(Zli l 0 (Zdt l.length)++(Zsj l 0 l.length++r)):=by
  unfold encS
  simp only [List.append_assoc]
 have hg:getN (encS l++r) 65536=some (l.length,Zli l 0 (Zdt l.length)++(Zsj l 0 l.length++r)):=by
  rw [e,Zkk h1 (by omega)]
 rw [hg]
 dsimp only
 rw [if_neg (by rw [List.length_append];omega),Zwa h _ _ _ (by unfold Zdt;omega)]
 exact ZsI h hf r l.length 0 (by omega)
theorem Zgb {l:List Doc} (h:isS l=true) (hf:FitS l):decS (encS l)=some l:=by
 have:=ZsJ h hf []
 rw [List.append_nil] at this
 unfold decS
 rw [this]
 simp [h]
theorem ZsH:∀ (f:Nat) (last:Int) (acc:List Doc) (b:List UInt8) {l:List Doc},FitS acc→rdR f last acc b=some l→FitS l
 | 0,_,acc,b,l,ha,h=>by
   rw [rdR] at h
   obtain rfl:=Option.some.inj h
   exact ha
 | f+1,last,acc,b,l,ha,h=>by
   rw [rdR] at h
   split at h
   ·cases h
   ·split at h
    ·cases h
    ·rename_i e y hg
     refine ZsH f _ _ _ ?_ h
     intro d hd
     rcases List.mem_append.1 hd with hd | hd
     ·exact ha d hd
     ·obtain rfl:=List.mem_singleton.1 hd
      exact (Zj2 hg).2.1
theorem Zga {b:List UInt8} {l:List Doc} (h:decS b=some l):isS l=true∧FitS l∧encS l=b:=by
 unfold decS at h
 split at h
 ·cases h
 ·rename_i m hr
  split at h
  ·rename_i hc
   obtain rfl:=Option.some.inj h
   refine ⟨hc.1,?_,hc.2⟩
   unfold rdS at hr
   split at hr
   ·cases hr
   ·split at hr
    ·cases hr
    ·split at hr
     ·cases hr
     ·exact ZsH _ _ _ _ (fun d hd=>by simp at hd) hr
  ·cases h
end Go.Proofs.YtdijhifdjbnkfaaGreat.SM
namespace Go.Proofs.YtdijhifdjbnkfaaGreat.RM
open Go
open TK (Zza Zzb Zy9)
open EM (Fld Ev Tr Trm ZeD ZeE Zoz Zxa Zxi Zxl Zxm Zxj Zbl addP Zjj Zjk Zjq Zjn Zrf Zrm Zrh ZqA ZqQ ZqS ZqH ZqD ZcC Znl Znq ZbX Ztz)
open PM (Post Ztj Zto isL Zmy okL okP Zpu)
theorem Zxe {e:Ev} (h:ZeD e=0):Zxa e=Zxi e.2:=by unfold Zxa;rw [if_neg (by simpa using h)]
theorem Zxb {e:Ev} (h:ZeD e≠0):Zxa e=[]:=by unfold Zxa;rw [if_pos h]
theorem Zxh (e:Ev):Zbl (Zxa e):=by
 by_cases h:ZeD e=0
 ·rw [Zxe h];exact Zxm _
 ·rw [Zxb h];simp [Zbl]
theorem Zxd (e:Ev):∀ t∈Zxa e,t.2≠[]:=by
 by_cases h:ZeD e=0
 ·rw [Zxe h];exact Zxj _
 ·rw [Zxb h];simp
theorem Zrl {α:Type}:∀ {l:List (Tr α)} {t:Tr α},Zbl l→t∈l→Zrf l t.1=t.2
 | u::r,t,h,hm=>by
   unfold Zbl at h
   rw [List.pairwise_cons] at h
   rw [Zrf]
   rcases List.mem_cons.1 hm with rfl | hm
   ·rw [if_pos rfl]
   ·rw [if_neg (Znq (h.1 t hm))]
    exact Zrl h.2 hm
theorem Zrn {α:Type}:∀ {l:List (Tr α)} {x:List UInt8},Zrf l x≠[]→(x,Zrf l x)∈l
 | [],x,h=>absurd rfl h
 | t::r,x,h=>by
   rw [Zrf] at h ⊢
   by_cases e:t.1=x
   ·rw [if_pos e];subst e;exact List.mem_cons_self
   ·rw [if_neg e] at h ⊢
    exact List.mem_cons_of_mem _ (Zrn h)
theorem Zjm {α:Type}:∀ (qs:List (List UInt8×α)) {l:List (Tr α)} {t:Tr α},t∈Zjj l qs→(∃ u∈l,u.1=t.1)∨∃ q∈qs,q.1=t.1
 | [],l,t,h=>.inl ⟨t,h,rfl⟩
 | q::qs,l,t,h=>by
   rcases Zjm qs (l:=addP l q.1 q.2) h with ⟨u,hu,e⟩ | ⟨p,hp,e⟩
   ·rcases ZbX hu with h1 | ⟨v,hv,h1⟩
    ·exact .inr ⟨q,by simp,by rw [← e,h1]⟩
    ·exact .inl ⟨v,hv,by rw [← e,h1]⟩
   ·exact .inr ⟨p,by simp [hp],e⟩
theorem ZqF:∀ {fs:List Fld} {base:Int} {q:List UInt8×Int},q∈ZqA base fs→∃ f∈fs,∃ x∈Zza f.2,q.1=f.1++58::x
 | f::r,base,q,h=>by
   rw [ZqA,List.mem_append] at h
   rcases h with h | h
   ·unfold ZqQ at h
    obtain ⟨p,hp,rfl⟩:=List.mem_map.1 h
    exact ⟨f,by simp,p.1,(List.mem_zipIdx hp).2.2▸List.getElem_mem _,rfl⟩
   ·obtain ⟨g,hg,h⟩:=ZqF h
    exact ⟨g,by simp [hg],h⟩
theorem Zxc {e:Ev} {t:Trm} (h:t∈Zxa e):1≤t.1.length∧t.1.length≤65:=by
 by_cases hc:ZeD e=0
 ·rw [Zxe hc] at h
  rcases Zjm _ h with ⟨u,hu,_⟩ | ⟨q,hq,e1⟩
  ·simp at hu
  ·obtain ⟨f,hf,x,hx,e2⟩:=ZqF hq
   have h1:=Zoz ((ZeE.1 hc).2 f hf).1
   have h2:=(Zy9 f.2 x hx).2
   rw [← e1,e2]
   simp only [List.length_append,List.length_cons]
   omega
 ·rw [Zxb hc] at h;simp at h
theorem ZqB:∀ (fs:List Fld) (base:Int),∀ v∈(ZqA base fs).map (·.2),v<base+ZcC fs
 | [],base,v,h=>by simp [ZqA] at h
 | f::r,base,v,h=>by
   have e:ZcC (f::r)=((Zza f.2).length:Int)+64+ZcC r:=by simp [ZcC]
   have hp:0≤ZcC r:=by
    clear h e
    induction r with
    | nil=>simp [ZcC]
    | cons g r ih=>have:ZcC (g::r)=((Zza g.2).length:Int)+64+ZcC r:=by simp [ZcC]
                   omega
   rw [ZqA,List.map_append,List.mem_append,ZqS] at h
   rcases h with h | h
   ·obtain ⟨k,hk,rfl⟩:=List.mem_map.1 h
    have:=List.mem_range.1 hk
    omega
   ·have:=ZqB r _ v h
    omega
theorem ZcD:∀ {fs:List Fld},(∀ f∈fs,f.2.length≤4096)→ZcC fs≤4160*(fs.length:Int)
 | [],_=>by simp [ZcC]
 | f::r,h=>by
   have e:ZcC (f::r)=((Zza f.2).length:Int)+64+ZcC r:=by simp [ZcC]
   have h1:=Zzb f.2
   have h2:=h f (by simp)
   have h3:=ZcD (fs:=r) fun g hg=>h g (by simp [hg])
   rw [e,List.length_cons]
   omega
theorem Ztm {fin:Int}:∀ {zs:List Int} {a:Int},(∀ z∈zs,a<z∧z<fin)→zs.Pairwise (·<·)→Ztj fin a zs=true
 | [],a,_,_=>rfl
 | z::zs,a,h,hp=>by
   rw [List.pairwise_cons] at hp
   have h0:=h z (by simp)
   rw [Ztj,Bool.and_eq_true,Bool.and_eq_true,decide_eq_true_eq,decide_eq_true_eq]
   exact ⟨h0,Ztm (fun y hy=>⟨hp.1 y hy,(h y (by simp [hy])).2⟩) hp.2⟩
theorem Zxg (e:Ev) (x:List UInt8):Zto 1048576 (Zrf (Zxa e) x)=true:=by
 by_cases hc:ZeD e=0
 ·obtain ⟨h1,h2⟩:=ZeE.1 hc
  rw [Zxe hc,Zxl]
  have hsub:(((ZqA 0 e.2).filter (fun q=>q.1=x)).map (·.2)).Sublist ((ZqA 0 e.2).map (·.2)):=List.filter_sublist.map _
  refine Ztm (fun z hz => ?_) ((ZqH e.2 0).sublist hsub)
  have hm:=hsub.subset hz
  have b1:=ZqD e.2 0 z hm
  have b2:=ZqB e.2 0 z hm
  have b3:=ZcD fun f hf=>(h2 f hf).2
  omega
 ·rw [Zxb hc];rfl
def ZqK:Int→List (List Trm)→List (List UInt8×Post)
 | _,[]=>[]
 | i,ts::r=>ts.map (fun t=>(t.1,(i,t.2)))++ZqK (i+1) r
theorem ZqL:∀ (a b:List (List Trm)) (i:Int),ZqK i (a++b)=ZqK i a++ZqK (i+(a.length:Int)) b
 | [],b,i=>by simp [ZqK]
 | t::a,b,i=>by
   rw [List.cons_append,ZqK,ZqK,ZqL a b,List.append_assoc,List.length_cons]
   congr 3
   omega
theorem ZqO {tss:List (List Trm)} {k:Nat} (hk:k<tss.length):ZqK 0 (tss.take (k+1))=ZqK 0 (tss.take k)++tss[k].map (fun t=>(t.1,((k:Int),t.2))):=by
 rw [List.take_succ_eq_append_getElem hk,ZqL,ZqK,ZqK,List.append_nil,List.length_take,Nat.min_eq_left (Nat.le_of_lt hk),Int.zero_add]
def ZuA (tss:List (List Trm)):List (Tr Post):=Zjj [] (ZqK 0 tss)
theorem ZuE (tss:List (List Trm)):Zbl (ZuA tss):=Zjq _ (by simp [Zbl])
theorem ZuC (tss:List (List Trm)):∀ t∈ZuA tss,t.2≠[]:=Zjn _ (by simp)
theorem ZqN:∀ {tss:List (List Trm)} {i:Int} {q:List UInt8×Post},q∈ZqK i tss→∃ ts∈tss,∃ t∈ts,q.1=t.1
 | ts::r,i,q,h=>by
   rw [ZqK,List.mem_append] at h
   rcases h with h | h
   ·obtain ⟨t,ht,rfl⟩:=List.mem_map.1 h
    exact ⟨ts,by simp,t,ht,rfl⟩
   ·obtain ⟨us,hu,h⟩:=ZqN h
    exact ⟨us,by simp [hu],h⟩
theorem ZuB {tss:List (List Trm)} {r:Tr Post} (h:r∈ZuA tss):∃ ts∈tss,∃ t∈ts,r.1=t.1:=by
 rcases Zjm _ h with ⟨u,hu,_⟩ | ⟨q,hq,e⟩
 ·simp at hu
 ·obtain ⟨ts,h1,t,h2,h3⟩:=ZqN hq
  exact ⟨ts,h1,t,h2,by rw [← e,h3]⟩
def ZrB:Int→List (List Trm)→List UInt8→List Post
 | _,[],_=>[]
 | i,ts::r,x=>(if Zrf ts x=[] then [] else [(i,Zrf ts x)])++ZrB (i+1) r x
theorem ZiA:∀ {ts:List Trm} (i:Int) (x:List UInt8),Zbl ts→(∀ t∈ts,t.2≠[]) →
  ((ts.map fun t=>(t.1,((i,t.2):Post))).filter (fun q=>q.1=x)).map (·.2)=if Zrf ts x=[] then [] else [(i,Zrf ts x)]
 | [],i,x,_,_=>by simp [Zrf]
 | t::r,i,x,h,hn=>by
   unfold Zbl at h
   rw [List.pairwise_cons] at h
   have ih:=ZiA i x h.2 fun u hu=>hn u (by simp [hu])
   rw [List.map_cons,Zrf]
   by_cases e:t.1=x
   ·subst e
    have h0:Zrf r t.1=[]:=Zrm fun u hu hx=>Znq (h.1 u hu) hx.symm
    rw [if_pos rfl,if_neg (hn t (by simp)),List.filter_cons_of_pos (by simp),List.map_cons,ih,h0]
    simp
   ·rw [if_neg e,List.filter_cons_of_neg (by simpa using e),ih]
theorem ZqP:∀ {tss:List (List Trm)} (i:Int) (x:List UInt8),(∀ ts∈tss,Zbl ts∧∀ t∈ts,t.2≠[])→((ZqK i tss).filter (fun q=>q.1=x)).map (·.2)=ZrB i tss x
 | [],i,x,_=>rfl
 | ts::r,i,x,h=>by
   rw [ZqK,List.filter_append,List.map_append,ZrB,ZiA i x (h ts (by simp)).1 (h ts (by simp)).2,ZqP (i+1) x fun us hu=>h us (by simp [hu])]
theorem ZuD {tss:List (List Trm)} (h:∀ ts∈tss,Zbl ts∧∀ t∈ts,t.2≠[]) (x:List UInt8):Zrf (ZuA tss) x=ZrB 0 tss x:=by
 unfold ZuA
 rw [Zrh _ _ (by simp [Zbl]),ZqP 0 x h]
 rfl
theorem ZrC:∀ {tss:List (List Trm)} {b:Int} {x:List UInt8} {p:Post},p∈ZrB b tss x↔∃ (k:Nat) (hk:k<tss.length),p=(b+(k:Int),Zrf tss[k] x)∧Zrf tss[k] x≠[]
 | [],b,x,p=>by simp [ZrB]
 | ts::r,b,x,p=>by
   rw [ZrB,List.mem_append,ZrC (tss:=r)]
   constructor
   ·rintro (h | ⟨k,hk,h1,h2⟩)
    ·split at h
     ·simp at h
     ·rename_i hne
      obtain rfl:=List.mem_singleton.1 h
      exact ⟨0,by simp,by simp,hne⟩
    ·exact ⟨k+1,by simpa using hk,by rw [h1];simp;omega,by simpa using h2⟩
   ·rintro ⟨k,hk,h1,h2⟩
    match k,hk,h1,h2 with
    | 0,hk,h1,h2 =>
      simp only [List.getElem_cons_zero] at h1 h2
      exact .inl (by rw [if_neg h2,h1];simp)
    | k+1,hk,h1,h2=>exact .inr ⟨k,by simpa using hk,by rw [h1];simp;omega,by simpa using h2⟩
theorem Zpv {ps:List Post} {n m:Int} (h:okL n ps) (hm:m≤n):okL m ps:=by
 cases ps with
 | nil=>trivial
 | cons p ps =>
   rw [okL] at h ⊢
   unfold okP at h ⊢
   exact ⟨⟨by omega,h.1.2⟩,h.2⟩
theorem ZrD:∀ {tss:List (List Trm)} {n:Int} {x:List UInt8},(∀ ts∈tss,Zto 1048576 (Zrf ts x)=true)→n+(tss.length:Int)≤65536→okL n (ZrB n tss x)
 | [],n,x,_,_=>trivial
 | ts::r,n,x,h,hn=>by
   rw [List.length_cons] at hn
   have ih:=ZrD (tss:=r) (n:=n+1) (x:=x) (fun us hu=>h us (by simp [hu])) (by omega)
   rw [ZrB]
   split
   ·rw [List.nil_append]
    exact Zpv ih (by omega)
   ·rename_i hne
    rw [List.singleton_append,okL]
    refine ⟨⟨by omega,?_,hne,h ts (by simp)⟩,ih⟩
    show n<65536
    omega
theorem ZrG (es:List Ev) (x:List UInt8) (h:es.length≤65536):isL (ZrB 0 (es.map Zxa) x)=true:=by
 rw [Zmy]
 refine ZrD (fun ts hts => ?_) (by rw [List.length_map];omega)
 obtain ⟨e,_,rfl⟩:=List.mem_map.1 hts
 exact Zxg e x
theorem Zxn (es:List Ev):∀ ts∈es.map Zxa,Zbl ts∧∀ t∈ts,t.2≠[]:=fun ts hts=>by
 obtain ⟨e,_,rfl⟩:=List.mem_map.1 hts
 exact ⟨Zxh e,Zxd e⟩
def Zup (es:List Ev):List (Tr Post):=ZuA (es.map Zxa)
theorem Zuu (es:List Ev):Zbl (Zup es):=ZuE _
theorem Zut (es:List Ev) (x:List UInt8):Zrf (Zup es) x=ZrB 0 (es.map Zxa) x:=ZuD (Zxn es) x
theorem Zus {es:List Ev} (h:es.length≤65536) {r:Tr Post} (hr:r∈Zup es):isL r.2=true∧r.2≠[]:=by
 have e:=Zrl (Zuu es) hr
 rw [Zut] at e
 exact ⟨by rw [← e];exact ZrG es r.1 h,ZuC _ r hr⟩
theorem Zur {es:List Ev} {r:Tr Post} (hr:r∈Zup es):1≤r.1.length∧r.1.length≤65:=by
 obtain ⟨ts,hts,t,ht,e⟩:=ZuB hr
 obtain ⟨ev,_,rfl⟩:=List.mem_map.1 hts
 rw [e]
 exact Zxc ht
theorem Zuq {es:List Ev} (h:es.length≤65536) {r:Tr Post} (hr:r∈Zup es):r.2.length≤65536:=Zpu _ ((Zmy _).1 (Zus h hr).1)
end Go.Proofs.YtdijhifdjbnkfaaGreat.RM
namespace Go.Proofs.YtdijhifdjbnkfaaGreat.UM
open Go.RowKit
theorem ZlZ:(Tryz.prog.info? 5).map (fun i=>(i.zero,i.size,i.bytes))=some (some (.int .u8 0),1,1):=by kernel_rfl
def Zad (B:Nat) (v:Value) (n:Nat) (xs:List Value) (r:Int) (w:World) (e:Ending) (w':World):Prop :=
 ∃ v',e=.returned v'∧w'.ownsRow B 5 1 v' (n+(Lib.runeCells r).length) (xs++Lib.runeCells r)∧∃ o,(w.alloc o).grownBy w' v.ownBlock
theorem Zew {r:Int} (h0:0≤r) (h1:r≤127):Lib.runeCells r=[.int .u8 r]:=by unfold Lib.runeCells;rw [Lib.encodeRuneZ_one h0 h1];rfl
theorem Zey {r:Int} (h0:128≤r) (h1:r≤2047):Lib.runeCells r=[.int .u8 (192+r / 64),.int .u8 (128+r%64)]:=by unfold Lib.runeCells;rw [Lib.encodeRuneZ_two h0 h1];rfl
theorem Zex {r:Int} (h:(2048≤r∧r<55296)∨(57343<r∧r≤65535)):Lib.runeCells r=[.int .u8 (224+r / 4096),.int .u8 (128+r / 64%64),.int .u8 (128+r%64)]:=by unfold Lib.runeCells;rw [Lib.encodeRuneZ_three h];rfl
theorem Zes {r:Int} (h0:65536≤r) (h1:r≤1114111):Lib.runeCells r=[.int .u8 (240+r / 262144),.int .u8 (128+r / 4096%64),.int .u8 (128+r / 64%64),.int .u8 (128+r%64)]:=by unfold Lib.runeCells;rw [Lib.encodeRuneZ_four h0 h1];rfl
theorem Zet (r:Int):Lib.runeCells (norm r)=Lib.runeCells r:=by unfold Lib.runeCells;rw [Zhd]
theorem Zr7 (B:Nat) (v:Value) (n:Nat) (xs:List Value) (r:Int) (h0:0≤r) (h1:r≤127) (w:World) (hown:w.ownsRow B 5 1 v n xs) (hlen:n+4≤140737488355328) (hBw:B≤w.heap.size) :
  Calls Tryz.prog 221 #[v,.int .i64 r] w (Zad B v n xs r w):=by
 unfold Zad
 rw [Zew h0 h1]
 obtain ⟨i0,hi,hz0,hz1,hz2⟩:=info_parts ZlZ
 have s1:¬ r<0:=by omega
 have s2:¬ 1114111<r:=by omega
 have s3:¬ 55296≤r:=by omega
 go_enter Tryz.func221,Tryz.ntmps221
 go_wp2_with (at_builtin;refine wpList_append_own _ rfl _ _ 23 rfl B 5 i0 (.int .u8 0) 1 1 Tryz.underlying23 hi hz0 hz1 hz2 rfl (by decide) _ _ _ rfl (hown.alloc _) ⟨w.heap.size,0,none⟩ 1 1 [.int .u8 r] rfl rfl ?c1 ?c2 ?c3 ?c4 ?c5 ?_)
 case c2=>rfl
 case c3=>unfold maxLen;omega
 case c4=>omega
 case c5=>omega
 intro v' w2 hown' hgrow _
 go_wp2
 go_ret
 exact ⟨_,rfl,hown',_,hgrow⟩
theorem Zr8 (B:Nat) (v:Value) (n:Nat) (xs:List Value) (r:Int) (h0:128≤r) (h1:r≤2047) (w:World) (hown:w.ownsRow B 5 1 v n xs) (hlen:n+4≤140737488355328) (hBw:B≤w.heap.size) :
  Calls Tryz.prog 221 #[v,.int .i64 r] w (Zad B v n xs r w):=by
 unfold Zad
 rw [Zey h0 h1]
 obtain ⟨i0,hi,hz0,hz1,hz2⟩:=info_parts ZlZ
 have s1:¬ r<0:=by omega
 have s2:¬ 1114111<r:=by omega
 have s3:¬ 55296≤r:=by omega
 have s4:¬ r<128:=by omega
 go_enter Tryz.func221,Tryz.ntmps221
 go_wp2_with (at_builtin;refine wpList_append_own _ rfl _ _ 23 rfl B 5 i0 (.int .u8 0) 1 1 Tryz.underlying23 hi hz0 hz1 hz2 rfl (by decide) _ _ _ rfl (hown.alloc _) ⟨w.heap.size,0,none⟩ 2 2 [.int .u8 (192+r / 64),.int .u8 (128+r%64)] rfl rfl ?c1 ?c2 ?c3 ?c4 ?c5 ?_)
 case c2=>exact ⟨rfl,rfl⟩
 case c3=>unfold maxLen;omega
 case c4=>omega
 case c5=>omega
 intro v' w2 hown' hgrow _
 go_wp2
 go_ret
 exact ⟨_,rfl,hown',_,hgrow⟩
theorem Zr6 (B:Nat) (v:Value) (n:Nat) (xs:List Value) (r:Int) (h0:2048≤r) (h1:r<55296) (w:World) (hown:w.ownsRow B 5 1 v n xs) (hlen:n+4≤140737488355328) (hBw:B≤w.heap.size) :
  Calls Tryz.prog 221 #[v,.int .i64 r] w (Zad B v n xs r w):=by
 unfold Zad
 rw [Zex (by omega)]
 obtain ⟨i0,hi,hz0,hz1,hz2⟩:=info_parts ZlZ
 have s1:¬ r<0:=by omega
 have s2:¬ 1114111<r:=by omega
 have s3:¬ 55296≤r:=by omega
 have s4:¬ r<128:=by omega
 have s5:¬ r<2048:=by omega
 have s6:r<65536:=by omega
 go_enter Tryz.func221,Tryz.ntmps221
 go_wp2_with (at_builtin;refine wpList_append_own _ rfl _ _ 23 rfl B 5 i0 (.int .u8 0) 1 1 Tryz.underlying23 hi hz0 hz1 hz2 rfl (by decide) _ _ _ rfl (hown.alloc _) ⟨w.heap.size,0,none⟩ 3 3 [.int .u8 (224+r / 4096),.int .u8 (128+r / 64%64),.int .u8 (128+r%64)] rfl rfl ?c1 ?c2 ?c3 ?c4 ?c5 ?_)
 case c2=>exact ⟨rfl,rfl,rfl⟩
 case c3=>unfold maxLen;omega
 case c4=>omega
 case c5=>omega
 intro v' w2 hown' hgrow _
 go_wp2
 go_ret
 exact ⟨_,rfl,hown',_,hgrow⟩
theorem Zr5 (B:Nat) (v:Value) (n:Nat) (xs:List Value) (r:Int) (h0:57343<r) (h1:r≤65535) (w:World) (hown:w.ownsRow B 5 1 v n xs) (hlen:n+4≤140737488355328) (hBw:B≤w.heap.size) :
  Calls Tryz.prog 221 #[v,.int .i64 r] w (Zad B v n xs r w):=by
 unfold Zad
 rw [Zex (by omega)]
 obtain ⟨i0,hi,hz0,hz1,hz2⟩:=info_parts ZlZ
 have s1:¬ r<0:=by omega
 have s2:¬ 1114111<r:=by omega
 have s3:55296≤r:=by omega
 have s3':¬ r≤57343:=by omega
 have s4:¬ r<128:=by omega
 have s5:¬ r<2048:=by omega
 have s6:r<65536:=by omega
 go_enter Tryz.func221,Tryz.ntmps221
 go_wp2_with (at_builtin;refine wpList_append_own _ rfl _ _ 23 rfl B 5 i0 (.int .u8 0) 1 1 Tryz.underlying23 hi hz0 hz1 hz2 rfl (by decide) _ _ _ rfl (hown.alloc _) ⟨w.heap.size,0,none⟩ 3 3 [.int .u8 (224+r / 4096),.int .u8 (128+r / 64%64),.int .u8 (128+r%64)] rfl rfl ?c1 ?c2 ?c3 ?c4 ?c5 ?_)
 case c2=>exact ⟨rfl,rfl,rfl⟩
 case c3=>unfold maxLen;omega
 case c4=>omega
 case c5=>omega
 intro v' w2 hown' hgrow _
 go_wp2
 go_ret
 exact ⟨_,rfl,hown',_,hgrow⟩
theorem Zr4 (B:Nat) (v:Value) (n:Nat) (xs:List Value) (r:Int) (h0:65536≤r) (h1:r≤1114111) (w:World) (hown:w.ownsRow B 5 1 v n xs) (hlen:n+4≤140737488355328) (hBw:B≤w.heap.size) :
  Calls Tryz.prog 221 #[v,.int .i64 r] w (Zad B v n xs r w):=by
 unfold Zad
 rw [Zes h0 h1]
 obtain ⟨i0,hi,hz0,hz1,hz2⟩:=info_parts ZlZ
 have s1:¬ r<0:=by omega
 have s2:¬ 1114111<r:=by omega
 have s3:55296≤r:=by omega
 have s3':¬ r≤57343:=by omega
 have s4:¬ r<128:=by omega
 have s5:¬ r<2048:=by omega
 have s6:¬ r<65536:=by omega
 go_enter Tryz.func221,Tryz.ntmps221
 go_wp2_with (at_builtin;refine wpList_append_own _ rfl _ _ 23 rfl B 5 i0 (.int .u8 0) 1 1 Tryz.underlying23 hi hz0 hz1 hz2 rfl (by decide) _ _ _ rfl (hown.alloc _) ⟨w.heap.size,0,none⟩ 4 4 [.int .u8 (240+r / 262144),.int .u8 (128+r / 4096%64),.int .u8 (128+r / 64%64),.int .u8 (128+r%64)] rfl rfl ?c1 ?c2 ?c3 ?c4 ?c5 ?_)
 case c2=>exact ⟨rfl,rfl,rfl,rfl⟩
 case c3=>unfold maxLen;omega
 case c5=>omega
 intro v' w2 hown' hgrow _
 go_wp2
 go_ret
 exact ⟨_,rfl,hown',_,hgrow⟩
theorem Zcn {B:Nat} {v:Value} {n:Nat} {xs:List Value} {r q:Int} {w:World} {e:Ending} {w':World} (hq:norm r=q) (h:Zad B v n xs q w e w'):Zad B v n xs r w e w':=by
 subst hq
 unfold Zad at *
 rw [Zet] at h
 exact h
theorem Zr2 (B:Nat) (v:Value) (n:Nat) (xs:List Value) (r:Int) (w:World) (hown:w.ownsRow B 5 1 v n xs) (hlen:n+4≤140737488355328) (hBw:B≤w.heap.size) :
  Calls Tryz.prog 221 #[v,.int .i64 r] w (Zad B v n xs r w):=by
 have bad:=Zr5 B v n xs 65533 (by omega) (by omega) w hown hlen hBw
 by_cases c1:r<0
 ·have hq:norm r=65533:=by unfold norm;rw [if_pos (by omega)]
  have Hq:=Lib.hid hq
  have Hb:=Lib.hid bad
  clear hq bad hown
  go_enter Tryz.func221,Tryz.ntmps221
  go_wp2_with fail
  refine Hb.out.mono ?_
  rintro e w' he
  obtain ⟨v',rfl,hx⟩:=he
  have H2:=Lib.hid hx
  clear hx
  go_wp2
  go_ret
  exact Zcn Hq.out ⟨v',rfl,H2.out⟩
 by_cases c2:1114111<r
 ·have hq:norm r=65533:=by unfold norm;rw [if_pos (by omega)]
  have Hq:=Lib.hid hq
  have Hb:=Lib.hid bad
  clear hq bad hown
  go_enter Tryz.func221,Tryz.ntmps221
  go_wp2_with fail
  refine Hb.out.mono ?_
  rintro e w' he
  obtain ⟨v',rfl,hx⟩:=he
  have H2:=Lib.hid hx
  clear hx
  go_wp2
  go_ret
  exact Zcn Hq.out ⟨v',rfl,H2.out⟩
 by_cases c3:r≤127
 ·exact Zr7 B v n xs r (by omega) c3 w hown hlen hBw
 by_cases c4:r≤2047
 ·exact Zr8 B v n xs r (by omega) c4 w hown hlen hBw
 by_cases c5:r<55296
 ·exact Zr6 B v n xs r (by omega) c5 w hown hlen hBw
 by_cases c6:r≤57343
 ·have hq:norm r=65533:=by unfold norm;rw [if_pos (by omega)]
  have c5':55296≤r:=by omega
  have Hq:=Lib.hid hq
  have Hb:=Lib.hid bad
  clear hq bad hown
  go_enter Tryz.func221,Tryz.ntmps221
  go_wp2_with fail
  refine Hb.out.mono ?_
  rintro e w' he
  obtain ⟨v',rfl,hx⟩:=he
  have H2:=Lib.hid hx
  clear hx
  go_wp2
  go_ret
  exact Zcn Hq.out ⟨v',rfl,H2.out⟩
 by_cases c7:r≤65535
 ·exact Zr5 B v n xs r (by omega) c7 w hown hlen hBw
 ·exact Zr4 B v n xs r (by omega) (by omega) w hown hlen hBw
def enco (r:Int):Int:=if r<0∨1114111<r then 65533 else r
theorem Zhb (r:Int):Lib.runeCells (enco r)=Lib.runeCells r:=by
 unfold enco
 split
 ·rename_i h
  have:norm r=65533:=by unfold norm;rw [if_pos (by omega)]
  rw [← this,Zet]
 ·rfl
theorem Zha (r:Int) : -2147483648≤enco r∧enco r≤2147483647:=by unfold enco;split<;>omega
theorem Zhc (r:Int) (w:World):Calls Tryz.prog 288 #[.int .i64 r] w fun e w'=>e=.returned (.int .i32 (enco r))∧w=w':=by
 unfold enco
 by_cases c1:r<0
 ·rw [if_pos (by omega)]
  go_enter Tryz.func288,Tryz.ntmps288
  go_wp2
  go_ret
  exact ⟨rfl,rfl⟩
 ·by_cases c2:1114111<r
  ·rw [if_pos (by omega)]
   go_enter Tryz.func288,Tryz.ntmps288
   go_wp2
   go_ret
   exact ⟨rfl,rfl⟩
  ·rw [if_neg (by omega)]
   have c3:0≤r:=by omega
   have c4:r≤1114111:=by omega
   go_enter Tryz.func288,Tryz.ntmps288
   go_wp2
   go_ret
   exact ⟨rfl,rfl⟩
end Go.Proofs.YtdijhifdjbnkfaaGreat.UM
