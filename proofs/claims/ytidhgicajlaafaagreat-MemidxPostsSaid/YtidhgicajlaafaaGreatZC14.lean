import Derived.Shelf.Unicode.DecodeSlow
import Derived.Test.YtidhgicajlaafaaGreatZC10
set_option maxRecDepth 100000
set_option maxHeartbeats 8000000
set_option linter.unusedVariables false
set_option linter.unusedSimpArgs false
namespace Go.Proofs.YtidhgicajlaafaaGreat.UM
open Go.RowKit
def contB (s:ByteArray) (a:Nat):Bool:=decide (a<s.size∧(s.get! a).toNat / 64=2)
theorem more_no (s:ByteArray) (p:Int) (a:Nat) (n:Int) (w:World) (hp:p=(a:Int)) (h0:a<9000000000000000000) (h:contB s a=false) :
  Calls Tryz.prog 142 #[.string s,.int .i64 p,.int .i64 n] w fun e w'=>e=.returned (.tuple #[.int .i64 0,.bool false])∧w=w':=by
 subst hp
 unfold contB at h
 by_cases hl:a<s.size
 ·obtain ⟨x,hx⟩:∃ x,s.get! a=x:=⟨_,rfl⟩
  have hs0:s[a]'hl=x:=by rw [← hx];exact (Utf8W.get!_of_lt s a hl).symm
  have hd:((x.toNat:Int) / 64 == 2)=false:=by rw [hx] at h;simp at h ⊢;have:=h hl;omega
  have hd2:((x.toNat:Int) / 64 != 2)=true:=by rw [bne,hd];rfl
  have hb:(x.toNat:Int)<256:=by have:=x.toNat_lt;omega
  clear h hx
  go_enter Tryz.func142,Tryz.ntmps142
  go_wp2
  go_ret2
  exact ⟨rfl,rfl⟩
 ·have hl2:s.size≤a:=by omega
  clear h
  go_enter Tryz.func142,Tryz.ntmps142
  go_wp2
  go_ret2
  exact ⟨rfl,rfl⟩
theorem more_yes (s:ByteArray) (p:Int) (a:Nat) (n:Int) (w:World) (hp:p=(a:Int)) (hn0:0≤n) (hn1:n≤1000000) (h:contB s a=true) :
  Calls Tryz.prog 142 #[.string s,.int .i64 p,.int .i64 n] w fun e w'=>e=.returned (.tuple #[.int .i64 (n*64+((s.get! a).toNat%64:Nat)),.bool true])∧w=w':=by
 subst hp
 unfold contB at h
 obtain ⟨x,hx⟩:∃ x,s.get! a=x:=⟨_,rfl⟩
 have h2:=of_decide_eq_true h
 have hl:=h2.1
 have hs0:s[a]'hl=x:=by rw [← hx];exact (Utf8W.get!_of_lt s a hl).symm
 rw [hx] at h2 ⊢
 have hd:((x.toNat:Int) / 64 == 2)=true:=by simp;omega
 have hd2:((x.toNat:Int) / 64 != 2)=false:=by rw [bne,hd];rfl
 have hb:(x.toNat:Int)<256:=by have:=x.toNat_lt;omega
 have hq:((x.toNat:Int)%64)=((x.toNat%64:Nat):Int):=by omega
 have Hq:=Lib.hid hq
 clear h hx h2 hq
 go_enter Tryz.func142,Tryz.ntmps142
 go_wp2
 go_ret2
 rw [Hq.out]
 exact ⟨rfl,rfl⟩
def rowF (s:ByteArray):Nat→Nat→Int→Int×Bool
 | 0,_,n=>(n,true)
 | k+1,a,n=>if contB s a then rowF s k (a+1) (n*64+((s.get! a).toNat%64:Nat)) else (0,false)
theorem rowF_zero (s:ByteArray) (a:Nat) (n:Int):rowF s 0 a n=(n,true):=rfl
theorem rowF_yes (s:ByteArray) (k a:Nat) (n:Int) (h:contB s a=true):rowF s (k+1) a n=rowF s k (a+1) (n*64+((s.get! a).toNat%64:Nat)):=by rw [rowF,if_pos h]
theorem rowF_no (s:ByteArray) (k a:Nat) (n:Int) (h:contB s a=false):rowF s (k+1) a n=(0,false):=by rw [rowF,if_neg (by simp [h])]
def RowB (j:Nat) (m:Int):Prop:=0≤m∧((j=0∧m≤31)∨(j=1∧m≤2047)∨(j=2∧m≤131071)∨(j=3∧m≤8388607))
theorem RowB.lo {j:Nat} {m:Int} (h:RowB j m):0≤m:=h.1
theorem RowB.hi {j:Nat} {m:Int} (h:RowB j m) (hj:j<3):m≤1000000:=by unfold RowB at h;omega
theorem RowB.next {j:Nat} {m:Int} (h:RowB j m) (hj:j<3) (x:Nat):RowB (j+1) (m*64+(x%64:Nat)):=by unfold RowB at *;omega
theorem row_any (s:ByteArray) (a k:Nat) (n z:Int) (w:World) (hz:z=(k:Int)+1) (hk:k≤3) (hn0:0≤n) (hn1:n≤31) (ha:a<8000000000000000000) :
  Calls Tryz.prog 125 #[.string s,.int .i64 a,.int .i64 n,.int .i64 z] w fun e w'=>e=.returned (.tuple #[.int .i64 (rowF s k (a+1) n).1,.bool (rowF s k (a+1) n).2])∧w=w':=by
 subst hz
 have B0:RowB 0 n:=⟨hn0,by omega⟩
 clear hn0 hn1
 obtain ⟨res,hres⟩:∃ res,rowF s k (a+1) n=res:=⟨_,rfl⟩
 have Hres:=Lib.hid hres
 rw [hres]
 clear hres
 go_enter Tryz.func125,Tryz.ntmps125
 go_wp2
 go_loop [2,10] (fun u i=>∃ (j:Nat) (m:Int),j≤k∧i=.int .i64 ((j:Int)+1)∧u=.int .i64 m∧RowB j m∧Hid (rowF s (k - j) (a+1+j) m=res)) (fun _ i=>k+1 - (intOf i).toNat)
 case atStart=>exact ⟨0,n,by omega,rfl,rfl,B0,by have:=Hres.out;exact this⟩
 case round =>
  obtain ⟨j,m,hj,rfl,rfl,hB,HR⟩:=hrel
  clear Hres B0
  have hm0:=hB.lo
  by_cases hlt:j<k
  ·have hm1:=hB.hi (by omega)
   obtain ⟨q,hq⟩:∃ q,k - j=q+1:=⟨k - j - 1,by omega⟩
   have hR:=HR.out
   rw [hq] at hR
   by_cases hc:contB s (a+1+j)=true
   ·rw [rowF_yes _ _ _ _ hc] at hR
    have hB1:=hB.next (by omega) (s.get! (a+1+j)).toNat
    obtain ⟨m2,hm2⟩:∃ m2,m*64+(((s.get! (a+1+j)).toNat%64:Nat):Int)=m2:=⟨_,rfl⟩
    have hmore:=fun W=>more_yes s ((a:Int)+((j:Int)+1)) (a+1+j) m W (by omega) hm0 hm1 hc
    rw [hm2] at hR hB1
    simp only [hm2] at hmore
    clear hm2
    have HR':=Lib.hid hR
    have Hq:=Lib.hid hq
    have Hm:=Lib.hid hmore
    clear hR HR hc hq hmore
    go_wp2_with fail
    refine (Hm.out _).mono ?_
    rintro e w' ⟨rfl,rfl⟩
    go_wp2
    go_round
    case rel=>exact ⟨j+1,m2,by omega,by go_num,rfl,hB1,by have h1:=Hq.out;have h2:=HR'.out;rw [show k - (j+1)=q by omega,show a+1+(j+1)=a+1+j+1 by omega];exact h2⟩
    case measure=>simp [intOf];omega
   ·have hc:contB s (a+1+j)=false:=by simpa using hc
    rw [rowF_no _ _ _ _ hc] at hR
    have hmore:=fun W=>more_no s ((a:Int)+((j:Int)+1)) (a+1+j) m W (by omega) (by omega) hc
    have HR':=Lib.hid hR
    have Hq:=Lib.hid hq
    have Hm:=Lib.hid hmore
    clear hR HR hc hq hmore
    go_wp2_with fail
    refine (Hm.out _).mono ?_
    rintro e w' ⟨rfl,rfl⟩
    go_wp2
    go_ret2
    rw [← HR'.out]
    exact ⟨rfl,rfl⟩
  ·obtain rfl:j=k:=by omega
   have hR:=HR.out
   rw [Nat.sub_self,rowF_zero] at hR
   have HR':=Lib.hid hR
   clear hR HR
   go_wp2
   go_ret2
   rw [← HR'.out]
   exact ⟨rfl,rfl⟩
end Go.Proofs.YtidhgicajlaafaaGreat.UM
namespace Go.Proofs.YtidhgicajlaafaaGreat.MX
open Go MM
open EM (Ev Trm termsE Rising posOf placesT)
open PM (Post)
open RM (rowsE rowsE_rising rowsE_posts postsT postsT_mem posOf_mem posOf_some termsE_rising termsE_ne)
abbrev RowP:=List UInt8×List Post
def posAt (r:RowP) (d:Int):List Int:=(r.2.filter fun p=>decide (p.1=d)).flatMap (·.2)
def totM (rs:List RowP) (s:List UInt8) (d:Int):List Int:=(rs.filter fun r=>selM s false r.1).flatMap fun r=>posAt r d
theorem posAt_mem {r:RowP} {d z:Int}:z∈posAt r d↔∃ p∈r.2,p.1=d∧z∈p.2:=by
 unfold posAt
 rw [List.mem_flatMap]
 constructor
 ·rintro ⟨p,hp,hz⟩
  obtain ⟨h1,h2⟩:=List.mem_filter.1 hp
  exact ⟨p,h1,of_decide_eq_true h2,hz⟩
 ·rintro ⟨p,h1,h2,hz⟩
  exact ⟨p,List.mem_filter.2 ⟨h1,decide_eq_true h2⟩,hz⟩
theorem totM_perm {rs R:List RowP} (h:rs.Perm R) (s:List UInt8) (d:Int):(totM rs s d).Perm (totM R s d):=(h.filter _).flatMap_right _
theorem totM_mem {rs:List RowP} {s:List UInt8} {d z:Int}:z∈totM rs s d↔∃ r∈rs,selM s false r.1=true∧z∈posAt r d:=by
 unfold totM
 rw [List.mem_flatMap]
 constructor
 ·rintro ⟨r,hr,hz⟩
  obtain ⟨h1,h2⟩:=List.mem_filter.1 hr
  exact ⟨r,h1,h2,hz⟩
 ·rintro ⟨r,h1,h2,hz⟩
  exact ⟨r,List.mem_filter.2 ⟨h1,h2⟩,hz⟩
theorem row_posts {es:List Ev} {r:RowP} (hr:r∈rowsE es):r.2=postsT 0 (es.map termsE) r.1:=by
 rw [← posOf_mem (rowsE_rising es) hr,rowsE_posts]
theorem row_at_doc {es:List Ev} {r:RowP} (hr:r∈rowsE es) {k:Nat} (hk:k<es.length) {z:Int}:z∈posAt r (k:Int)↔z∈posOf (termsE es[k]) r.1:=by
 rw [posAt_mem,row_posts hr]
 constructor
 ·rintro ⟨p,hp,hd,hz⟩
  obtain ⟨j,hj,rfl,_⟩:=postsT_mem.1 hp
  have e:j=k:=by
   have hd':(0:Int)+(j:Int)=(k:Int):=hd
   omega
  subst e
  rw [List.getElem_map] at hz
  exact hz
 ·intro hz
  refine ⟨((0:Int)+(k:Int),posOf (termsE es[k]) r.1),postsT_mem.2 ⟨k,by rw [List.length_map];exact hk,by rw [List.getElem_map],fun e => ?_⟩,by simp,hz⟩
  rw [List.getElem_map] at e
  rw [e] at hz
  cases hz
theorem row_of_term {es:List Ev} {k:Nat} (hk:k<es.length) {t:Trm} (ht:t∈termsE es[k]):∃ r∈rowsE es,r.1=t.1:=by
 have h1:=posOf_mem (termsE_rising es[k]) ht
 have hne:posOf (rowsE es) t.1≠[]:=by
  rw [rowsE_posts]
  intro hn
  have:=(postsT_mem (tss:=es.map termsE) (b:=0) (x:=t.1) (p:=((0:Int)+(k:Int),posOf (termsE es[k]) t.1))).2 ⟨k,by rw [List.length_map];exact hk,by rw [List.getElem_map],by rw [List.getElem_map,h1];exact termsE_ne _ t ht⟩
  rw [hn] at this
  cases this
 exact ⟨_,posOf_some hne,rfl⟩
theorem tot_rows {es:List Ev} {k:Nat} (hk:k<es.length) {s:List UInt8} {z:Int}:z∈totM (rowsE es) s (k:Int)↔∃ t∈termsE es[k],selM s false t.1=true∧z∈t.2:=by
 rw [totM_mem]
 constructor
 ·rintro ⟨r,hr,hs,hz⟩
  rw [row_at_doc hr hk] at hz
  have hne:posOf (termsE es[k]) r.1≠[]:=fun e=>by rw [e] at hz;cases hz
  exact ⟨_,posOf_some hne,hs,hz⟩
 ·rintro ⟨t,ht,hs,hz⟩
  obtain ⟨r,hr,e⟩:=row_of_term hk ht
  refine ⟨r,hr,by rw [e];exact hs,?_⟩
  rw [row_at_doc hr hk,e,posOf_mem (termsE_rising es[k]) ht]
  exact hz
theorem two_terms {T:List Trm} (h:(placesT T).Nodup):T.Pairwise fun a b=>∀ z∈a.2,z∉b.2:=by
 induction T with
 | nil=>exact List.Pairwise.nil
 | cons t T ih =>
   have e:placesT (t::T)=t.2++placesT T:=by simp [placesT]
   rw [e,List.nodup_append] at h
   refine List.Pairwise.cons (fun u hu z hz hz2=>h.2.2 z hz z ?_ rfl) (ih h.2.1)
   unfold placesT
   exact List.mem_flatMap.2 ⟨u,hu,hz2⟩
theorem terms_apart {T:List Trm} (h:(placesT T).Nodup) {a b:Trm} (ha:a∈T) (hb:b∈T) {z:Int} (h1:z∈a.2) (h2:z∈b.2):a=b:=by
 obtain ⟨i,hi,rfl⟩:=List.getElem_of_mem ha
 obtain ⟨j,hj,rfl⟩:=List.getElem_of_mem hb
 have hp:=List.pairwise_iff_getElem.1 (two_terms h)
 rcases Nat.lt_trichotomy i j with hij | hij | hij
 ·exact absurd h2 (hp i j hi hj hij z h1)
 ·subst hij;rfl
 ·exact absurd h1 (hp j i hj hi hij z h2)
theorem sort_nodup {l:List Int} (h:l.Pairwise (·<·)):l.Nodup:=h.imp fun {a b} h e=>by omega
theorem filter_one {l:List Post} {k:Int} (h:l.Pairwise fun a b=>a.1<b.1):(l.filter fun p=>decide (p.1=k)).length≤1:=by
 induction l with
 | nil=>simp
 | cons p l ih =>
   rw [List.pairwise_cons] at h
   by_cases e:p.1=k
   ·have:(l.filter fun p=>decide (p.1=k))=[]:=List.filter_eq_nil_iff.2 fun q hq hd=>by
     have h1:=h.1 q hq
     have h2:=of_decide_eq_true hd
     omega
    rw [List.filter_cons_of_pos (by simp [e]),this]
    simp
   ·rw [List.filter_cons_of_neg (by simp [e])]
    exact ih h.2
theorem postsT_ge:∀ {tss:List (List Trm)} {b:Int} {x:List UInt8} {p:Post},p∈postsT b tss x→b≤p.1:=fun h=>by
 obtain ⟨k,_,rfl,_⟩:=postsT_mem.1 h
 show _≤_+(k:Int)
 omega
theorem postsT_rise:∀ (tss:List (List Trm)) (b:Int) (x:List UInt8),(postsT b tss x).Pairwise fun p q=>p.1<q.1
 | [],b,x=>by unfold postsT;exact List.Pairwise.nil
 | ts::r,b,x=>by
   rw [postsT]
   refine List.pairwise_append.2 ⟨by split<;>simp,postsT_rise r (b+1) x,fun p hp q hq => ?_⟩
   have h1:=postsT_ge hq
   split at hp
   ·cases hp
   ·obtain rfl:=List.mem_singleton.1 hp
    show b<q.1
    omega
theorem posAt_is {es:List Ev} {r:RowP} (hr:r∈rowsE es) {k:Nat} (hk:k<es.length):posAt r (k:Int)=posOf (termsE es[k]) r.1:=by
 have h1:(r.2.filter fun p=>decide (p.1=(k:Int))).length≤1:=by rw [row_posts hr];exact filter_one (postsT_rise _ _ _)
 have hm:=fun z=>row_at_doc (z:=z) hr hk
 unfold posAt at hm ⊢
 cases hf:r.2.filter (fun p=>decide (p.1=(k:Int))) with
 | nil =>
   rw [hf] at hm
   symm
   exact List.eq_nil_iff_forall_not_mem.2 fun z hz=>by have:=(hm z).2 hz;simp at this
 | cons p l =>
   rw [hf] at h1
   have hl:l=[]:=List.eq_nil_of_length_eq_zero (by simpa using h1)
   subst hl
   have hp:p∈r.2.filter (fun p=>decide (p.1=(k:Int))):=by rw [hf];simp
   obtain ⟨h2,h3⟩:=List.mem_filter.1 hp
   rw [row_posts hr] at h2
   obtain ⟨j,hj,rfl,_⟩:=postsT_mem.1 h2
   have e:j=k:=by
    have:=of_decide_eq_true h3
    have hd':(0:Int)+(j:Int)=(k:Int):=this
    omega
   subst e
   simp
theorem tot_nodup (es:List Ev) (s:List UInt8) {k:Nat} (hk:k<es.length):(totM (rowsE es) s (k:Int)).Nodup:=by
 unfold totM
 unfold List.Nodup
 refine List.pairwise_flatMap.2 ⟨fun r hr => ?_,?_⟩
 ·rw [posAt_is (List.mem_filter.1 hr).1 hk]
  exact sort_nodup (posOf_sorted es[k] r.1)
 ·refine List.Pairwise.imp_of_mem (R:=fun a b:RowP=>EM.lessL a.1 b.1=true) (fun {a b} ha hb hab x hx y hy e => ?_) (List.Pairwise.filter _ (rowsE_rising es))
  subst e
  rw [posAt_is (List.mem_filter.1 ha).1 hk] at hx
  rw [posAt_is (List.mem_filter.1 hb).1 hk] at hy
  have h1:=posOf_some (l:=termsE es[k]) (x:=a.1) (fun e=>by rw [e] at hx;cases hx)
  have h2:=posOf_some (l:=termsE es[k]) (x:=b.1) (fun e=>by rw [e] at hy;cases hy)
  have h3:=congrArg Prod.fst (terms_apart (places_nodup es[k]) h1 h2 hx hy)
  have h4:a.1=b.1:=h3
  rw [h4,EM.lessL_irr] at hab
  cases hab
theorem beg_sorted {es:List Ev} {rs:List RowP} {s:List UInt8} {k:Nat} {l:List Int} (hk:k<es.length) (hrs:rs.Perm (rowsE es)) (hp:l.Perm (totM rs s (k:Int))) (hl:l.Pairwise (·≤·)):l=ofE es[k] s false:=by
 have h1:=hp.trans (totM_perm hrs s (k:Int))
 have hn:l.Nodup:=h1.nodup_iff.2 (tot_nodup es s hk)
 refine ofE_unique ((hl.and hn).imp fun {a b} h=>by have h2:a≠b:=h.2;have h3:a≤b:=h.1;omega) fun z => ?_
 rw [h1.mem_iff]
 exact tot_rows hk
theorem tot_none {es:List Ev} {rs:List RowP} {s:List UInt8} {d:Int} (hrs:rs.Perm (rowsE es)) (h:totM rs s d≠[]):∃ (k:Nat) (hk:k<es.length),d=(k:Int)∧ofE es[k] s false≠[]:=by
 obtain ⟨z,hz⟩:=List.exists_mem_of_ne_nil _ h
 obtain ⟨r,hr,hs,hz2⟩:=totM_mem.1 hz
 obtain ⟨p,hp,hd,_⟩:=posAt_mem.1 hz2
 rw [row_posts (hrs.mem_iff.1 hr)] at hp
 obtain ⟨k,hk,rfl,_⟩:=postsT_mem.1 hp
 rw [List.length_map] at hk
 have e:d=(k:Int):=by rw [← hd];exact Int.zero_add _
 subst e
 refine ⟨k,hk,rfl,fun e => ?_⟩
 have:=ofE_mem.2 ((tot_rows hk).1 ((totM_perm hrs s (k:Int)).mem_iff.1 hz))
 rw [e] at this
 cases this
theorem postsO_ge:∀ {l:List (List Int)} {b:Int} {p:Post},p∈postsO b l→b≤p.1:=fun h=>by
 obtain ⟨k,_,rfl,_⟩:=postsO_mem.1 h
 show _≤_+(k:Int)
 omega
theorem postsO_rise:∀ (l:List (List Int)) (b:Int),(postsO b l).Pairwise fun p q=>p.1<q.1
 | [],b=>by unfold postsO;exact List.Pairwise.nil
 | x::r,b=>by
   rw [postsO]
   refine List.pairwise_append.2 ⟨by split<;>simp,postsO_rise r (b+1),fun p hp q hq => ?_⟩
   have h1:=postsO_ge hq
   split at hp
   ·cases hp
   ·obtain rfl:=List.mem_singleton.1 hp
    show b<q.1
    omega
theorem beg_posts {es:List Ev} {s:List UInt8} {ks:List Int} {f:Int→List Int} (h:ks.Pairwise (·<·)) (hk:∀ d,d∈ks↔∃ (k:Nat) (hk:k<es.length),d=(k:Int)∧ofE es[k] s false≠[]) (hf:∀ (k:Nat) (hk:k<es.length),ofE es[k] s false≠[]→f (k:Int)=ofE es[k] s false) :
  ks.map (fun d=>(d,f d))=postsM es s false:=by
 have hmem:∀ p:Post,p∈postsM es s false↔∃ (k:Nat) (hk:k<es.length),p=((k:Int),ofE es[k] s false)∧ofE es[k] s false≠[]:=fun p=>by
  unfold postsM
  rw [postsO_mem]
  constructor
  ·rintro ⟨k,hk,rfl,hne⟩
   have hk':k<es.length:=by rw [List.length_map] at hk;exact hk
   rw [List.getElem_map] at hne
   exact ⟨k,hk',by rw [List.getElem_map,Int.zero_add],hne⟩
  ·rintro ⟨k,hk,rfl,hne⟩
   exact ⟨k,by rw [List.length_map];exact hk,by rw [List.getElem_map,Int.zero_add],by rw [List.getElem_map];exact hne⟩
 have e:ks=(postsM es s false).map (·.1):=by
  refine sorted_unique h ?_ fun d => ?_
  ·rw [List.pairwise_map]
   exact postsO_rise _ _
  ·rw [hk,List.mem_map]
   constructor
   ·rintro ⟨k,hk,rfl,hne⟩
    exact ⟨_,(hmem _).2 ⟨k,hk,rfl,hne⟩,rfl⟩
   ·rintro ⟨p,hp,rfl⟩
    obtain ⟨k,hk,rfl,hne⟩:=(hmem p).1 hp
    exact ⟨k,hk,rfl,hne⟩
 rw [e,List.map_map]
 have e2:(postsM es s false).map ((fun d=>(d,f d)) ∘ (·.1))=(postsM es s false).map id:=List.map_congr_left fun p hp=>by
  obtain ⟨k,hk,rfl,hne⟩:=(hmem p).1 hp
  show ((k:Int),f (k:Int))=_
  rw [hf k hk hne]
  rfl
 rw [e2,List.map_id]
theorem totM_next (rs:List RowP) (r:RowP) (s:List UInt8) (d:Int):totM (rs++[r]) s d=totM rs s d++if selM s false r.1 then posAt r d else []:=by
 unfold totM
 rw [List.filter_append,List.flatMap_append]
 by_cases h:selM s false r.1=true
 ·rw [if_pos h,List.filter_cons_of_pos (p:=fun r:RowP=>selM s false r.1) h]
  simp
 ·rw [if_neg h,List.filter_cons_of_neg (p:=fun r:RowP=>selM s false r.1) h]
  simp
theorem posAt_zero (x:List UInt8) (l:List Post) (d:Int):posAt (x,l.take 0) d=[]:=by simp [posAt]
theorem posAt_next (x:List UInt8) {l:List Post} {j:Nat} (hj:j<l.length) (d:Int):posAt (x,l.take (j+1)) d=posAt (x,l.take j) d++if d=l[j].1 then l[j].2 else []:=by
 unfold posAt
 rw [List.take_succ_eq_append_getElem hj]
 show ((l.take j++[l[j]]).filter fun p=>decide (p.1=d)).flatMap (·.2)=((l.take j).filter fun p=>decide (p.1=d)).flatMap (·.2)++_
 rw [List.filter_append,List.flatMap_append]
 by_cases h:l[j].1=d
 ·rw [if_pos h.symm,List.filter_cons_of_pos (by simp [h])]
  simp
 ·rw [if_neg (fun e=>h e.symm),List.filter_cons_of_neg (by simp [h])]
  simp
theorem posAt_all (x:List UInt8) (l:List Post) (d:Int):posAt (x,l.take l.length) d=posAt (x,l) d:=by rw [List.take_length]
end Go.Proofs.YtidhgicajlaafaaGreat.MX
