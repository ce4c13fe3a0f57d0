/-
  
-/
import Derived.Test.YtdijhifdjbnkfaaGreatZA6
import Derived.Test.YtdijhifdjbnkfaaGreatZA4
import Derived.Test.YtdijhifdjbnkfaaGreatZA2
import Derived.Test.YtdijhifdjbnkfaaGreatProg
import Derived.Test.YtdijhifdjbnkfaaGreatZA5
import Derived.WalkKit
import Derived.Below
import Derived.Lib.Hide
import Derived.LoopTactic
import Derived.Outline
import Derived.Laws.AppendOwn
set_option linter.unusedVariables false
namespace Go.Proofs.YtdijhifdjbnkfaaGreat.GM
open Go Go.Proofs.YtdijhifdjbnkfaaGreat.VM
open Go.Proofs.YtdijhifdjbnkfaaGreat.EM (Ev Tr Trm FitE Rising posOf termsE lessL)
open Go.Proofs.YtdijhifdjbnkfaaGreat.PM (Post isL)
open Go.Proofs.YtdijhifdjbnkfaaGreat.DM (Ent okX okX_iff areD areR areR_cons riseO encD)
open Go.Proofs.YtdijhifdjbnkfaaGreat.SM (Doc isS encS decS decS_put decS_back FitS lastS isS_iff)
open Go.Proofs.YtdijhifdjbnkfaaGreat.RM (rowsE rowsE_rising rowsE_may rowsE_len rowsE_count rowsE_posts)
open Go.Proofs.YtdijhifdjbnkfaaGreat.FM (frameL framesL framesL_cons getR getR_put getR_back)
open Go.Proofs.YtdijhifdjbnkfaaGreat.BM (addA addA_all newL newL_len roomL roomL_le mayL addT addT_len)
def evs (l:List Doc):List Ev:=l.map (·.2)
def rowsG (l:List Doc):List (Tr Post):=rowsE (evs l)
def timesG:Int→List Doc→List UInt8
 | _,[]=>[]
 | a,d::r=>intL (IntKind.i64.wrap (d.2.1 - a))++timesG d.2.1 r
def lastT:Int→List Doc→Int
 | a,[]=>a
 | _,d::r=>lastT d.2.1 r
theorem lastT_snoc:∀ (a:List Doc) (d:Doc) (z:Int),lastT z (a++[d])=d.2.1
 | [],d,z=>rfl
 | x::a,d,z=>by rw [List.cons_append,lastT,lastT_snoc a d]
theorem lastT_next {l:List Doc} {k:Nat} (hk:k<l.length) (z:Int):lastT z (l.take (k+1))=l[k].2.1:=by
 rw [List.take_succ_eq_append_getElem hk,lastT_snoc]
def postsG (rows:List (Tr Post)):List UInt8:=rows.flatMap fun r=>PM.encL r.2
theorem postsG_next {rows:List (Tr Post)} {k:Nat} (hk:k<rows.length):postsG (rows.take (k+1))=postsG (rows.take k)++PM.encL rows[k].2:=by
 unfold postsG
 rw [List.take_succ_eq_append_getElem hk,List.flatMap_append]
 simp
theorem postsG_take (rows:List (Tr Post)) (k:Nat):(postsG (rows.take k)).length≤(postsG rows).length:=by
 have:postsG rows=postsG (rows.take k)++postsG (rows.drop k):=by
  unfold postsG
  rw [← List.flatMap_append,List.take_append_drop]
 rw [this,List.length_append]
 omega
def entsG:Int→List (Tr Post)→List Ent
 | _,[]=>[]
 | off,r::l=>(r.1,(off,(((PM.encL r.2).length:Int),(r.2.length:Int))))::entsG (off+((PM.encL r.2).length:Int)) l
theorem entsG_append:∀ (a b:List (Tr Post)) (off:Int),entsG off (a++b)=entsG off a++entsG (off+((postsG a).length:Int)) b
 | [],b,off=>by simp [entsG,postsG]
 | r::a,b,off=>by
   have e:postsG (r::a)=PM.encL r.2++postsG a:=by simp [postsG]
   rw [List.cons_append,entsG,entsG,entsG_append a b,e,List.length_append,List.cons_append]
   congr 3
   omega
theorem entsG_next {rows:List (Tr Post)} {k:Nat} (hk:k<rows.length):entsG 0 (rows.take (k+1))=entsG 0 (rows.take k)++[(rows[k].1,(((postsG (rows.take k)).length:Int),(((PM.encL rows[k].2).length:Int),(rows[k].2.length:Int))))]:=by
 rw [List.take_succ_eq_append_getElem hk,entsG_append,entsG,entsG,Int.zero_add]
theorem entsG_len:∀ (rows:List (Tr Post)) (off:Int),(entsG off rows).length=rows.length
 | [],_=>rfl
 | r::rows,off=>by rw [entsG,List.length_cons,List.length_cons,entsG_len rows]
theorem entsG_terms:∀ (rows:List (Tr Post)) (off:Int),(entsG off rows).map (·.1)=rows.map (·.1)
 | [],_=>rfl
 | r::rows,off=>by rw [entsG,List.map_cons,List.map_cons,entsG_terms rows]
theorem entsG_are:∀ {rows:List (Tr Post)} {off:Int} {p:Option (List UInt8)},Rising rows→(∀ r∈rows,1≤r.1.length∧r.1.length≤65∧r.2.length≤65536)→(∀ q,p=some q→∀ r∈rows,lessL q r.1=true)→0≤off →
  off+((postsG rows).length:Int)≤67108864→areR p (entsG off rows)=true
 | [],off,p,_,_,_,_,_=>by cases p<;>rfl
 | r::rows,off,p,h,h2,h3,h4,h5=>by
   unfold Rising at h
   rw [List.pairwise_cons] at h
   have e:postsG (r::rows)=PM.encL r.2++postsG rows:=by simp [postsG]
   rw [e,List.length_append] at h5
   have hr:=h2 r (by simp)
   rw [entsG,areR_cons,Bool.and_eq_true,Bool.and_eq_true]
   refine ⟨⟨okX_iff.2 ⟨⟨hr.1,hr.2.1⟩,⟨h4,?_⟩,⟨?_,?_⟩,?_,?_⟩,?_⟩,entsG_are (off:=off+((PM.encL r.2).length:Int)) h.2 (fun u hu=>h2 u (by simp [hu])) (fun q hq u hu => ?_) (by omega) (by omega)⟩
   ·show off≤67108864
    omega
   ·show (0:Int)≤((PM.encL r.2).length:Int)
    omega
   ·show ((PM.encL r.2).length:Int)≤67108864
    omega
   ·show (0:Int)≤(r.2.length:Int)
    omega
   ·show (r.2.length:Int)≤67108864
    omega
   ·cases p with
    | none=>rfl
    | some q=>exact h3 q rfl r (by simp)
   ·obtain rfl:=Option.some.inj hq
    exact h.1 u hu
def filterG (rows:List (Tr Post)):List UInt8:=(addA (newL rows.length) (rows.map (·.1))).1
theorem filterG_len (rows:List (Tr Post)):(filterG rows).length=roomL rows.length:=by
 unfold filterG
 rw [addA_all,newL_len]
abbrev Foot:=Int×Int×Int×Int×Nat
def footN (p:Foot) (d:Doc):Foot:=if p.2.2.2.2=0 then (d.2.1,d.2.1,d.1,d.1,1) else (min p.1 d.2.1,max p.2.1 d.2.1,p.2.2.1,d.1,p.2.2.2.2+1)
def footG (l:List Doc):Foot:=l.foldl footN (0,0,0,0,0)
def footB (p:Foot):List UInt8:=intL p.1++(intL p.2.1++(intL p.2.2.1++(intL p.2.2.2.1++intL (p.2.2.2.2:Int))))
def sectsG (l:List Doc):List (List UInt8):=[SM.encS l,timesG 0 l,postsG (rowsG l),encD (entsG 0 (rowsG l)),filterG (rowsG l),footB (footG l)]
def bytesG (l:List Doc):List UInt8:=[76,83,69,71]++framesL (sectsG l)
def fitsG (l:List Doc):Bool:=(sectsG l).all fun s=>decide (s.length≤16777216)
def encG (l:List Doc):List UInt8×Int :=
 if isS l=false∨l=[] then ([],130) else if 262144<(rowsG l).length∨16777216<(postsG (rowsG l)).length∨fitsG l=false then ([],2) else (bytesG l,0)
theorem encG_cases (l:List Doc):encG l=([],130)∨encG l=([],2)∨encG l=(bytesG l,0):=by
 unfold encG
 split
 ·exact .inl rfl
 ·split
  ·exact .inr (.inl rfl)
  ·exact .inr (.inr rfl)
theorem encG_ok {l:List Doc} {b:List UInt8} (h:encG l=(b,0)):isS l=true∧l≠[]∧(rowsG l).length≤262144∧(postsG (rowsG l)).length≤16777216∧fitsG l=true∧b=bytesG l:=by
 unfold encG at h
 split at h
 ·simp at h
 ·rename_i h1
  split at h
  ·simp at h
  ·rename_i h2
   have h3:=congrArg Prod.fst h
   simp only [not_or] at h1 h2
   exact ⟨by simpa using h1.1,h1.2,by omega,by omega,by simpa using h2.2.2,h3.symm⟩
theorem encG_first {l:List Doc} {b:List UInt8} (h:encG l=(b,0)) (r:List UInt8):getR ((b++r).drop 4)=(SM.encS l,(frameL (SM.encS l)).length,0):=by
 obtain ⟨_,_,_,_,h5,rfl⟩:=encG_ok h
 have h6:(SM.encS l).length≤16777216:=by
  unfold fitsG sectsG at h5
  simp only [List.all_cons,Bool.and_eq_true,decide_eq_true_eq] at h5
  exact h5.1
 have e:(bytesG l++r).drop 4=frameL (SM.encS l)++(framesL (sectsG l).tail++r):=by
  unfold bytesG sectsG
  rw [framesL_cons]
  simp only [List.append_assoc,List.tail_cons]
  rfl
 rw [e,getR_put h6]
def decG (b:List UInt8):Option (List Doc) :=
 if b.length<4 then none
 else if (getR (b.drop 4)).2.2≠0 then none
 else match decS (getR (b.drop 4)).1 with
  | none=>none
  | some l=>if encG l=(b,0) then some l else none
theorem decG_put {l:List Doc} {b:List UInt8} (hf:FitS l) (h:encG l=(b,0)):decG b=some l:=by
 have h1:=encG_first h []
 rw [List.append_nil] at h1
 obtain ⟨h2,_,_,_,_,e⟩:=encG_ok h
 have hl:¬ b.length<4:=by rw [e];unfold bytesG;simp
 unfold decG
 rw [if_neg hl,h1]
 dsimp only
 rw [if_neg (by simp),decS_put h2 hf]
 dsimp only
 rw [if_pos h]
theorem decG_back {b:List UInt8} {l:List Doc} (h:decG b=some l):encG l=(b,0)∧FitS l:=by
 unfold decG at h
 split at h
 ·cases h
 ·split at h
  ·cases h
  ·split at h
   ·cases h
   ·rename_i m hd
    split at h
    ·rename_i he
     obtain rfl:=Option.some.inj h
     exact ⟨he,(decS_back hd).2.1⟩
    ·cases h
theorem decG_iff {b:List UInt8} {l:List Doc}:decG b=some l↔encG l=(b,0)∧FitS l:=⟨decG_back,fun ⟨h1,h2⟩=>decG_put h2 h1⟩
theorem ents_are {l:List Doc} (h:isS l=true) (hr:(rowsG l).length≤262144) (hp:(postsG (rowsG l)).length≤16777216):areD (entsG 0 (rowsG l))=true:=by
 have hn:(evs l).length≤65536:=by unfold evs;rw [List.length_map];exact (isS_iff.1 h).1
 unfold areD
 rw [entsG_len,Bool.and_eq_true,decide_eq_true_eq]
 refine ⟨hr,entsG_are (rowsE_rising _) (fun r hr => ?_) (fun q hq=>by cases hq) (by omega) (by omega)⟩
 exact ⟨(rowsE_len hr).1,(rowsE_len hr).2,rowsE_count hn hr⟩
theorem rows_may {l:List Doc} (h:isS l=true):∀ r∈rowsG l,isL r.2=true∧r.2≠[]:=fun r hr=>rowsE_may (by unfold evs;rw [List.length_map];exact (isS_iff.1 h).1) hr
def prefixG (rows:List (Tr Post)) (p:List UInt8):List (List UInt8):=(rows.map (·.1)).filter fun t=>decide (t.take p.length=p)
def rangeG (l:List Doc) (a b:Int):List Int:=((List.range l.length).filter fun k=>decide (a≤(l.getD k SM.noDoc).2.1)&&decide ((l.getD k SM.noDoc).2.1≤b)).map (fun k:Nat=>(k:Int))
def rangeK (l:List Doc) (a b:Int) (n:Nat):List Int:=((List.range n).filter fun k=>decide (a≤(l.getD k SM.noDoc).2.1)&&decide ((l.getD k SM.noDoc).2.1≤b)).map (fun k:Nat=>(k:Int))
theorem rangeK_next {l:List Doc} {a b:Int} {n:Nat} (hn:n<l.length):rangeK l a b (n+1)=rangeK l a b n++if a≤l[n].2.1∧l[n].2.1≤b then [(n:Int)] else []:=by
 unfold rangeK
 rw [List.range_succ,List.filter_append,List.map_append]
 congr 1
 have e:l.getD n SM.noDoc=l[n]:=by simp [List.getD,hn]
 by_cases h:a≤l[n].2.1∧l[n].2.1≤b
 ·rw [if_pos h,List.filter_cons_of_pos (by rw [e];simp [h])];rfl
 ·rw [if_neg h,List.filter_cons_of_neg (by rw [e];simp;omega)];rfl
theorem rangeK_all (l:List Doc) (a b:Int):rangeK l a b l.length=rangeG l a b:=rfl
end Go.Proofs.YtdijhifdjbnkfaaGreat.GM
set_option linter.unusedVariables false
namespace Go.Proofs.YtdijhifdjbnkfaaGreat.UM
open Go.RowKit
theorem infoByte:(Tryz.prog.info? 5).map (fun i=>(i.zero,i.size,i.bytes))=some (some (.int .u8 0),1,1):=by kernel_rfl
def Appended (B:Nat) (v:Value) (n:Nat) (xs:List Value) (r:Int) (w:World) (e:Ending) (w':World):Prop :=
 ∃ v',e=.returned v'∧w'.ownsRow B 5 1 v' (n+(Lib.runeCells r).length) (xs++Lib.runeCells r)∧∃ o,(w.alloc o).grownBy w' v.ownBlock
theorem cells_one {r:Int} (h0:0≤r) (h1:r≤127):Lib.runeCells r=[.int .u8 r]:=by unfold Lib.runeCells;rw [Lib.encodeRuneZ_one h0 h1];rfl
theorem cells_two {r:Int} (h0:128≤r) (h1:r≤2047):Lib.runeCells r=[.int .u8 (192+r / 64),.int .u8 (128+r%64)]:=by unfold Lib.runeCells;rw [Lib.encodeRuneZ_two h0 h1];rfl
theorem cells_three {r:Int} (h:(2048≤r∧r<55296)∨(57343<r∧r≤65535)):Lib.runeCells r=[.int .u8 (224+r / 4096),.int .u8 (128+r / 64%64),.int .u8 (128+r%64)]:=by unfold Lib.runeCells;rw [Lib.encodeRuneZ_three h];rfl
theorem cells_four {r:Int} (h0:65536≤r) (h1:r≤1114111):Lib.runeCells r=[.int .u8 (240+r / 262144),.int .u8 (128+r / 4096%64),.int .u8 (128+r / 64%64),.int .u8 (128+r%64)]:=by unfold Lib.runeCells;rw [Lib.encodeRuneZ_four h0 h1];rfl
theorem cells_norm (r:Int):Lib.runeCells (norm r)=Lib.runeCells r:=by unfold Lib.runeCells;rw [encodeRuneZ_norm]
set_option maxHeartbeats 4000000 in
set_option maxRecDepth 100000 in
theorem put_one (B:Nat) (v:Value) (n:Nat) (xs:List Value) (r:Int) (h0:0≤r) (h1:r≤127) (w:World) (hown:w.ownsRow B 5 1 v n xs) (hlen:n+4≤140737488355328) (hBw:B≤w.heap.size) :
  Calls Tryz.prog 221 #[v,.int .i64 r] w (Appended B v n xs r w):=by
 unfold Appended
 rw [cells_one h0 h1]
 obtain ⟨i0,hi,hz0,hz1,hz2⟩:=info_parts infoByte
 have s1:¬ r<0:=by omega
 have s2:¬ 1114111<r:=by omega
 have s3:¬ 55296≤r:=by omega
 go_enter Tryz.func221,Tryz.ntmps221
 go_wp2_with (at_builtin;refine wpList_append_own _ rfl _ _ 23 rfl B 5 i0 (.int .u8 0) 1 1 Tryz.underlying23 hi hz0 hz1 hz2 rfl (by decide) _ _ _ rfl (hown.alloc _) ⟨w.heap.size,0,none⟩ 1 1 [.int .u8 r] rfl rfl ?c1 ?c2 ?c3 ?c4 ?c5 ?_)
 case c2=>rfl
 case c3=>unfold maxLen;omega
 case c4=>omega
 case c5=>omega
 intro v' w2 hown' hgrow _
 go_wp2
 go_ret
 exact ⟨_,rfl,hown',_,hgrow⟩
set_option maxHeartbeats 4000000 in
set_option maxRecDepth 100000 in
theorem put_two (B:Nat) (v:Value) (n:Nat) (xs:List Value) (r:Int) (h0:128≤r) (h1:r≤2047) (w:World) (hown:w.ownsRow B 5 1 v n xs) (hlen:n+4≤140737488355328) (hBw:B≤w.heap.size) :
  Calls Tryz.prog 221 #[v,.int .i64 r] w (Appended B v n xs r w):=by
 unfold Appended
 rw [cells_two h0 h1]
 obtain ⟨i0,hi,hz0,hz1,hz2⟩:=info_parts infoByte
 have s1:¬ r<0:=by omega
 have s2:¬ 1114111<r:=by omega
 have s3:¬ 55296≤r:=by omega
 have s4:¬ r<128:=by omega
 go_enter Tryz.func221,Tryz.ntmps221
 go_wp2_with (at_builtin;refine wpList_append_own _ rfl _ _ 23 rfl B 5 i0 (.int .u8 0) 1 1 Tryz.underlying23 hi hz0 hz1 hz2 rfl (by decide) _ _ _ rfl (hown.alloc _) ⟨w.heap.size,0,none⟩ 2 2 [.int .u8 (192+r / 64),.int .u8 (128+r%64)] rfl rfl ?c1 ?c2 ?c3 ?c4 ?c5 ?_)
 case c2=>exact ⟨rfl,rfl⟩
 case c3=>unfold maxLen;omega
 case c4=>omega
 case c5=>omega
 intro v' w2 hown' hgrow _
 go_wp2
 go_ret
 exact ⟨_,rfl,hown',_,hgrow⟩
set_option maxHeartbeats 4000000 in
set_option maxRecDepth 100000 in
theorem put_lo (B:Nat) (v:Value) (n:Nat) (xs:List Value) (r:Int) (h0:2048≤r) (h1:r<55296) (w:World) (hown:w.ownsRow B 5 1 v n xs) (hlen:n+4≤140737488355328) (hBw:B≤w.heap.size) :
  Calls Tryz.prog 221 #[v,.int .i64 r] w (Appended B v n xs r w):=by
 unfold Appended
 rw [cells_three (by omega)]
 obtain ⟨i0,hi,hz0,hz1,hz2⟩:=info_parts infoByte
 have s1:¬ r<0:=by omega
 have s2:¬ 1114111<r:=by omega
 have s3:¬ 55296≤r:=by omega
 have s4:¬ r<128:=by omega
 have s5:¬ r<2048:=by omega
 have s6:r<65536:=by omega
 go_enter Tryz.func221,Tryz.ntmps221
 go_wp2_with (at_builtin;refine wpList_append_own _ rfl _ _ 23 rfl B 5 i0 (.int .u8 0) 1 1 Tryz.underlying23 hi hz0 hz1 hz2 rfl (by decide) _ _ _ rfl (hown.alloc _) ⟨w.heap.size,0,none⟩ 3 3 [.int .u8 (224+r / 4096),.int .u8 (128+r / 64%64),.int .u8 (128+r%64)] rfl rfl ?c1 ?c2 ?c3 ?c4 ?c5 ?_)
 case c2=>exact ⟨rfl,rfl,rfl⟩
 case c3=>unfold maxLen;omega
 case c4=>omega
 case c5=>omega
 intro v' w2 hown' hgrow _
 go_wp2
 go_ret
 exact ⟨_,rfl,hown',_,hgrow⟩
set_option maxHeartbeats 4000000 in
set_option maxRecDepth 100000 in
theorem put_hi (B:Nat) (v:Value) (n:Nat) (xs:List Value) (r:Int) (h0:57343<r) (h1:r≤65535) (w:World) (hown:w.ownsRow B 5 1 v n xs) (hlen:n+4≤140737488355328) (hBw:B≤w.heap.size) :
  Calls Tryz.prog 221 #[v,.int .i64 r] w (Appended B v n xs r w):=by
 unfold Appended
 rw [cells_three (by omega)]
 obtain ⟨i0,hi,hz0,hz1,hz2⟩:=info_parts infoByte
 have s1:¬ r<0:=by omega
 have s2:¬ 1114111<r:=by omega
 have s3:55296≤r:=by omega
 have s3':¬ r≤57343:=by omega
 have s4:¬ r<128:=by omega
 have s5:¬ r<2048:=by omega
 have s6:r<65536:=by omega
 go_enter Tryz.func221,Tryz.ntmps221
 go_wp2_with (at_builtin;refine wpList_append_own _ rfl _ _ 23 rfl B 5 i0 (.int .u8 0) 1 1 Tryz.underlying23 hi hz0 hz1 hz2 rfl (by decide) _ _ _ rfl (hown.alloc _) ⟨w.heap.size,0,none⟩ 3 3 [.int .u8 (224+r / 4096),.int .u8 (128+r / 64%64),.int .u8 (128+r%64)] rfl rfl ?c1 ?c2 ?c3 ?c4 ?c5 ?_)
 case c2=>exact ⟨rfl,rfl,rfl⟩
 case c3=>unfold maxLen;omega
 case c4=>omega
 case c5=>omega
 intro v' w2 hown' hgrow _
 go_wp2
 go_ret
 exact ⟨_,rfl,hown',_,hgrow⟩
set_option maxHeartbeats 4000000 in
set_option maxRecDepth 100000 in
theorem put_four (B:Nat) (v:Value) (n:Nat) (xs:List Value) (r:Int) (h0:65536≤r) (h1:r≤1114111) (w:World) (hown:w.ownsRow B 5 1 v n xs) (hlen:n+4≤140737488355328) (hBw:B≤w.heap.size) :
  Calls Tryz.prog 221 #[v,.int .i64 r] w (Appended B v n xs r w):=by
 unfold Appended
 rw [cells_four h0 h1]
 obtain ⟨i0,hi,hz0,hz1,hz2⟩:=info_parts infoByte
 have s1:¬ r<0:=by omega
 have s2:¬ 1114111<r:=by omega
 have s3:55296≤r:=by omega
 have s3':¬ r≤57343:=by omega
 have s4:¬ r<128:=by omega
 have s5:¬ r<2048:=by omega
 have s6:¬ r<65536:=by omega
 go_enter Tryz.func221,Tryz.ntmps221
 go_wp2_with (at_builtin;refine wpList_append_own _ rfl _ _ 23 rfl B 5 i0 (.int .u8 0) 1 1 Tryz.underlying23 hi hz0 hz1 hz2 rfl (by decide) _ _ _ rfl (hown.alloc _) ⟨w.heap.size,0,none⟩ 4 4 [.int .u8 (240+r / 262144),.int .u8 (128+r / 4096%64),.int .u8 (128+r / 64%64),.int .u8 (128+r%64)] rfl rfl ?c1 ?c2 ?c3 ?c4 ?c5 ?_)
 case c2=>exact ⟨rfl,rfl,rfl,rfl⟩
 case c3=>unfold maxLen;omega
 case c5=>omega
 intro v' w2 hown' hgrow _
 go_wp2
 go_ret
 exact ⟨_,rfl,hown',_,hgrow⟩
theorem appended_norm {B:Nat} {v:Value} {n:Nat} {xs:List Value} {r q:Int} {w:World} {e:Ending} {w':World} (hq:norm r=q) (h:Appended B v n xs q w e w'):Appended B v n xs r w e w':=by
 subst hq
 unfold Appended at *
 rw [cells_norm] at h
 exact h
set_option maxHeartbeats 4000000 in
set_option maxRecDepth 100000 in
theorem put_any (B:Nat) (v:Value) (n:Nat) (xs:List Value) (r:Int) (w:World) (hown:w.ownsRow B 5 1 v n xs) (hlen:n+4≤140737488355328) (hBw:B≤w.heap.size) :
  Calls Tryz.prog 221 #[v,.int .i64 r] w (Appended B v n xs r w):=by
 have bad:=put_hi B v n xs 65533 (by omega) (by omega) w hown hlen hBw
 by_cases c1:r<0
 ·have hq:norm r=65533:=by unfold norm;rw [if_pos (by omega)]
  have Hq:=Lib.hid hq
  have Hb:=Lib.hid bad
  clear hq bad hown
  go_enter Tryz.func221,Tryz.ntmps221
  go_wp2_with fail
  refine Hb.out.mono ?_
  rintro e w' he
  obtain ⟨v',rfl,hx⟩:=he
  have H2:=Lib.hid hx
  clear hx
  go_wp2
  go_ret
  exact appended_norm Hq.out ⟨v',rfl,H2.out⟩
 by_cases c2:1114111<r
 ·have hq:norm r=65533:=by unfold norm;rw [if_pos (by omega)]
  have Hq:=Lib.hid hq
  have Hb:=Lib.hid bad
  clear hq bad hown
  go_enter Tryz.func221,Tryz.ntmps221
  go_wp2_with fail
  refine Hb.out.mono ?_
  rintro e w' he
  obtain ⟨v',rfl,hx⟩:=he
  have H2:=Lib.hid hx
  clear hx
  go_wp2
  go_ret
  exact appended_norm Hq.out ⟨v',rfl,H2.out⟩
 by_cases c3:r≤127
 ·exact put_one B v n xs r (by omega) c3 w hown hlen hBw
 by_cases c4:r≤2047
 ·exact put_two B v n xs r (by omega) c4 w hown hlen hBw
 by_cases c5:r<55296
 ·exact put_lo B v n xs r (by omega) c5 w hown hlen hBw
 by_cases c6:r≤57343
 ·have hq:norm r=65533:=by unfold norm;rw [if_pos (by omega)]
  have c5':55296≤r:=by omega
  have Hq:=Lib.hid hq
  have Hb:=Lib.hid bad
  clear hq bad hown
  go_enter Tryz.func221,Tryz.ntmps221
  go_wp2_with fail
  refine Hb.out.mono ?_
  rintro e w' he
  obtain ⟨v',rfl,hx⟩:=he
  have H2:=Lib.hid hx
  clear hx
  go_wp2
  go_ret
  exact appended_norm Hq.out ⟨v',rfl,H2.out⟩
 by_cases c7:r≤65535
 ·exact put_hi B v n xs r (by omega) c7 w hown hlen hBw
 ·exact put_four B v n xs r (by omega) (by omega) w hown hlen hBw
def enco (r:Int):Int:=if r<0∨1114111<r then 65533 else r
theorem enco_cells (r:Int):Lib.runeCells (enco r)=Lib.runeCells r:=by
 unfold enco
 split
 ·rename_i h
  have:norm r=65533:=by unfold norm;rw [if_pos (by omega)]
  rw [← this,cells_norm]
 ·rfl
theorem enco_bd (r:Int) : -2147483648≤enco r∧enco r≤2147483647:=by unfold enco;split<;>omega
theorem encodable_any (r:Int) (w:World):Calls Tryz.prog 288 #[.int .i64 r] w fun e w'=>e=.returned (.int .i32 (enco r))∧w=w':=by
 unfold enco
 by_cases c1:r<0
 ·rw [if_pos (by omega)]
  go_enter Tryz.func288,Tryz.ntmps288
  go_wp2
  go_ret
  exact ⟨rfl,rfl⟩
 ·by_cases c2:1114111<r
  ·rw [if_pos (by omega)]
   go_enter Tryz.func288,Tryz.ntmps288
   go_wp2
   go_ret
   exact ⟨rfl,rfl⟩
  ·rw [if_neg (by omega)]
   have c3:0≤r:=by omega
   have c4:r≤1114111:=by omega
   go_enter Tryz.func288,Tryz.ntmps288
   go_wp2
   go_ret
   exact ⟨rfl,rfl⟩
end Go.Proofs.YtdijhifdjbnkfaaGreat.UM
set_option linter.unusedVariables false
namespace Go.Proofs.YtdijhifdjbnkfaaGreat.UM
open Go.RowKit
theorem lower_ix0 (w:World):(Instr.index 339 (.agg #[.int .i64 65,.int .i64 90,.int .i64 32,.int .i64 192,.int .i64 214,.int .i64 32,.int .i64 216,.int .i64 222,.int .i64 32,.int .i64 913,.int .i64 929,.int .i64 32,.int .i64 931,.int .i64 939,.int .i64 32,.int .i64 1024,.int .i64 1039,.int .i64 80,.int .i64 1040,.int .i64 1071,.int .i64 32]) (.int .i64 0)).run Tryz.prog w=.ok (.agg #[.int .i64 65,.int .i64 90,.int .i64 32]) w:=by kernel_rfl
theorem lower_ix1 (w:World):(Instr.index 339 (.agg #[.int .i64 65,.int .i64 90,.int .i64 32,.int .i64 192,.int .i64 214,.int .i64 32,.int .i64 216,.int .i64 222,.int .i64 32,.int .i64 913,.int .i64 929,.int .i64 32,.int .i64 931,.int .i64 939,.int .i64 32,.int .i64 1024,.int .i64 1039,.int .i64 80,.int .i64 1040,.int .i64 1071,.int .i64 32]) (.int .i64 1)).run Tryz.prog w=.ok (.agg #[.int .i64 192,.int .i64 214,.int .i64 32]) w:=by kernel_rfl
theorem lower_ix2 (w:World):(Instr.index 339 (.agg #[.int .i64 65,.int .i64 90,.int .i64 32,.int .i64 192,.int .i64 214,.int .i64 32,.int .i64 216,.int .i64 222,.int .i64 32,.int .i64 913,.int .i64 929,.int .i64 32,.int .i64 931,.int .i64 939,.int .i64 32,.int .i64 1024,.int .i64 1039,.int .i64 80,.int .i64 1040,.int .i64 1071,.int .i64 32]) (.int .i64 2)).run Tryz.prog w=.ok (.agg #[.int .i64 216,.int .i64 222,.int .i64 32]) w:=by kernel_rfl
theorem lower_ix3 (w:World):(Instr.index 339 (.agg #[.int .i64 65,.int .i64 90,.int .i64 32,.int .i64 192,.int .i64 214,.int .i64 32,.int .i64 216,.int .i64 222,.int .i64 32,.int .i64 913,.int .i64 929,.int .i64 32,.int .i64 931,.int .i64 939,.int .i64 32,.int .i64 1024,.int .i64 1039,.int .i64 80,.int .i64 1040,.int .i64 1071,.int .i64 32]) (.int .i64 3)).run Tryz.prog w=.ok (.agg #[.int .i64 913,.int .i64 929,.int .i64 32]) w:=by kernel_rfl
theorem lower_ix4 (w:World):(Instr.index 339 (.agg #[.int .i64 65,.int .i64 90,.int .i64 32,.int .i64 192,.int .i64 214,.int .i64 32,.int .i64 216,.int .i64 222,.int .i64 32,.int .i64 913,.int .i64 929,.int .i64 32,.int .i64 931,.int .i64 939,.int .i64 32,.int .i64 1024,.int .i64 1039,.int .i64 80,.int .i64 1040,.int .i64 1071,.int .i64 32]) (.int .i64 4)).run Tryz.prog w=.ok (.agg #[.int .i64 931,.int .i64 939,.int .i64 32]) w:=by kernel_rfl
theorem lower_ix5 (w:World):(Instr.index 339 (.agg #[.int .i64 65,.int .i64 90,.int .i64 32,.int .i64 192,.int .i64 214,.int .i64 32,.int .i64 216,.int .i64 222,.int .i64 32,.int .i64 913,.int .i64 929,.int .i64 32,.int .i64 931,.int .i64 939,.int .i64 32,.int .i64 1024,.int .i64 1039,.int .i64 80,.int .i64 1040,.int .i64 1071,.int .i64 32]) (.int .i64 5)).run Tryz.prog w=.ok (.agg #[.int .i64 1024,.int .i64 1039,.int .i64 80]) w:=by kernel_rfl
theorem lower_ix6 (w:World):(Instr.index 339 (.agg #[.int .i64 65,.int .i64 90,.int .i64 32,.int .i64 192,.int .i64 214,.int .i64 32,.int .i64 216,.int .i64 222,.int .i64 32,.int .i64 913,.int .i64 929,.int .i64 32,.int .i64 931,.int .i64 939,.int .i64 32,.int .i64 1024,.int .i64 1039,.int .i64 80,.int .i64 1040,.int .i64 1071,.int .i64 32]) (.int .i64 6)).run Tryz.prog w=.ok (.agg #[.int .i64 1040,.int .i64 1071,.int .i64 32]) w:=by kernel_rfl
set_option maxRecDepth 100000 in
set_option maxHeartbeats 8000000 in
theorem lower_any (r:Int) (w:World):Calls Tryz.prog 284 #[.int .i64 r] w fun e w'=>e=.returned (.int .i64 (lowerZ r))∧Below w.heap.size w w':=by
 go_enter Tryz.func284,Tryz.ntmps284
 go_wp2
 go_loopw [13] (fun i wr=>∃ k:Nat,k≤7∧i=.int .i64 k∧lowNo k r∧Below w.heap.size w wr) (fun i _=>7 - (intOf i).toNat)
 case atStart=>exact ⟨0,by omega,rfl,lowNo_zero r,Below.refl _ _⟩
 case round =>
  obtain ⟨k,hk,rfl,hno,hb⟩:=hrel
  have hsz:=hb.size
  have hk2:k=0∨k=1∨k=2∨k=3∨k=4∨k=5∨k=6∨k=7:=by omega
  rcases hk2 with rfl | rfl | rfl | rfl | rfl | rfl | rfl | rfl
  ·have hix:=lower_ix0
   by_cases g:65≤r∧r≤90
   ·have e:=low_hit0 r g
    obtain ⟨g0,g1⟩:=g
    have E:=Lib.hid e
    clear e hno
    go_wp2
    go_ret
    exact ⟨ret_int (by rw [E.out]),hb.alloc hsz _⟩
   ·have hno2:=lowNo_1 r hno g
    clear hno
    by_cases g0:65≤r
    ·have g1:¬ r≤90:=by omega
     clear g
     go_wp2
     go_roundw
     case rel=>exact ⟨1,by omega,by go_num,hno2,hb.alloc hsz _⟩
     case measure=>simp [intOf]
    ·clear g
     go_wp2
     go_roundw
     case rel=>exact ⟨1,by omega,by go_num,hno2,hb.alloc hsz _⟩
     case measure=>simp [intOf]
  ·have hix:=lower_ix1
   by_cases g:192≤r∧r≤214
   ·have e:=low_hit1 r g
    obtain ⟨g0,g1⟩:=g
    have E:=Lib.hid e
    clear e hno
    go_wp2
    go_ret
    exact ⟨ret_int (by rw [E.out]),hb.alloc hsz _⟩
   ·have hno2:=lowNo_2 r hno g
    clear hno
    by_cases g0:192≤r
    ·have g1:¬ r≤214:=by omega
     clear g
     go_wp2
     go_roundw
     case rel=>exact ⟨2,by omega,by go_num,hno2,hb.alloc hsz _⟩
     case measure=>simp [intOf]
    ·clear g
     go_wp2
     go_roundw
     case rel=>exact ⟨2,by omega,by go_num,hno2,hb.alloc hsz _⟩
     case measure=>simp [intOf]
  ·have hix:=lower_ix2
   by_cases g:216≤r∧r≤222
   ·have e:=low_hit2 r g
    obtain ⟨g0,g1⟩:=g
    have E:=Lib.hid e
    clear e hno
    go_wp2
    go_ret
    exact ⟨ret_int (by rw [E.out]),hb.alloc hsz _⟩
   ·have hno2:=lowNo_3 r hno g
    clear hno
    by_cases g0:216≤r
    ·have g1:¬ r≤222:=by omega
     clear g
     go_wp2
     go_roundw
     case rel=>exact ⟨3,by omega,by go_num,hno2,hb.alloc hsz _⟩
     case measure=>simp [intOf]
    ·clear g
     go_wp2
     go_roundw
     case rel=>exact ⟨3,by omega,by go_num,hno2,hb.alloc hsz _⟩
     case measure=>simp [intOf]
  ·have hix:=lower_ix3
   by_cases g:913≤r∧r≤929
   ·have e:=low_hit3 r g
    obtain ⟨g0,g1⟩:=g
    have E:=Lib.hid e
    clear e hno
    go_wp2
    go_ret
    exact ⟨ret_int (by rw [E.out]),hb.alloc hsz _⟩
   ·have hno2:=lowNo_4 r hno g
    clear hno
    by_cases g0:913≤r
    ·have g1:¬ r≤929:=by omega
     clear g
     go_wp2
     go_roundw
     case rel=>exact ⟨4,by omega,by go_num,hno2,hb.alloc hsz _⟩
     case measure=>simp [intOf]
    ·clear g
     go_wp2
     go_roundw
     case rel=>exact ⟨4,by omega,by go_num,hno2,hb.alloc hsz _⟩
     case measure=>simp [intOf]
  ·have hix:=lower_ix4
   by_cases g:931≤r∧r≤939
   ·have e:=low_hit4 r g
    obtain ⟨g0,g1⟩:=g
    have E:=Lib.hid e
    clear e hno
    go_wp2
    go_ret
    exact ⟨ret_int (by rw [E.out]),hb.alloc hsz _⟩
   ·have hno2:=lowNo_5 r hno g
    clear hno
    by_cases g0:931≤r
    ·have g1:¬ r≤939:=by omega
     clear g
     go_wp2
     go_roundw
     case rel=>exact ⟨5,by omega,by go_num,hno2,hb.alloc hsz _⟩
     case measure=>simp [intOf]
    ·clear g
     go_wp2
     go_roundw
     case rel=>exact ⟨5,by omega,by go_num,hno2,hb.alloc hsz _⟩
     case measure=>simp [intOf]
  ·have hix:=lower_ix5
   by_cases g:1024≤r∧r≤1039
   ·have e:=low_hit5 r g
    obtain ⟨g0,g1⟩:=g
    have E:=Lib.hid e
    clear e hno
    go_wp2
    go_ret
    exact ⟨ret_int (by rw [E.out]),hb.alloc hsz _⟩
   ·have hno2:=lowNo_6 r hno g
    clear hno
    by_cases g0:1024≤r
    ·have g1:¬ r≤1039:=by omega
     clear g
     go_wp2
     go_roundw
     case rel=>exact ⟨6,by omega,by go_num,hno2,hb.alloc hsz _⟩
     case measure=>simp [intOf]
    ·clear g
     go_wp2
     go_roundw
     case rel=>exact ⟨6,by omega,by go_num,hno2,hb.alloc hsz _⟩
     case measure=>simp [intOf]
  ·have hix:=lower_ix6
   by_cases g:1040≤r∧r≤1071
   ·have e:=low_hit6 r g
    obtain ⟨g0,g1⟩:=g
    have E:=Lib.hid e
    clear e hno
    go_wp2
    go_ret
    exact ⟨ret_int (by rw [E.out]),hb.alloc hsz _⟩
   ·have hno2:=lowNo_7 r hno g
    clear hno
    by_cases g0:1040≤r
    ·have g1:¬ r≤1071:=by omega
     clear g
     go_wp2
     go_roundw
     case rel=>exact ⟨7,by omega,by go_num,hno2,hb.alloc hsz _⟩
     case measure=>simp [intOf]
    ·clear g
     go_wp2
     go_roundw
     case rel=>exact ⟨7,by omega,by go_num,hno2,hb.alloc hsz _⟩
     case measure=>simp [intOf]
  ·have e:=lowNo_end r hno
   have E:=Lib.hid e
   clear e hno
   go_wp2
   go_ret
   exact ⟨ret_int (by rw [E.out]),hb⟩
end Go.Proofs.YtdijhifdjbnkfaaGreat.UM
set_option linter.unusedVariables false
namespace Go.Proofs.YtdijhifdjbnkfaaGreat.UM
open Go.RowKit
theorem word_ix0 (w:World):(Instr.index 335 (.agg #[.int .i64 48,.int .i64 57,.int .i64 65,.int .i64 90,.int .i64 97,.int .i64 122,.int .i64 192,.int .i64 214,.int .i64 216,.int .i64 246,.int .i64 248,.int .i64 255,.int .i64 913,.int .i64 929,.int .i64 931,.int .i64 974,.int .i64 1024,.int .i64 1119]) (.int .i64 0)).run Tryz.prog w=.ok (.agg #[.int .i64 48,.int .i64 57]) w:=by kernel_rfl
theorem word_ix1 (w:World):(Instr.index 335 (.agg #[.int .i64 48,.int .i64 57,.int .i64 65,.int .i64 90,.int .i64 97,.int .i64 122,.int .i64 192,.int .i64 214,.int .i64 216,.int .i64 246,.int .i64 248,.int .i64 255,.int .i64 913,.int .i64 929,.int .i64 931,.int .i64 974,.int .i64 1024,.int .i64 1119]) (.int .i64 1)).run Tryz.prog w=.ok (.agg #[.int .i64 65,.int .i64 90]) w:=by kernel_rfl
theorem word_ix2 (w:World):(Instr.index 335 (.agg #[.int .i64 48,.int .i64 57,.int .i64 65,.int .i64 90,.int .i64 97,.int .i64 122,.int .i64 192,.int .i64 214,.int .i64 216,.int .i64 246,.int .i64 248,.int .i64 255,.int .i64 913,.int .i64 929,.int .i64 931,.int .i64 974,.int .i64 1024,.int .i64 1119]) (.int .i64 2)).run Tryz.prog w=.ok (.agg #[.int .i64 97,.int .i64 122]) w:=by kernel_rfl
theorem word_ix3 (w:World):(Instr.index 335 (.agg #[.int .i64 48,.int .i64 57,.int .i64 65,.int .i64 90,.int .i64 97,.int .i64 122,.int .i64 192,.int .i64 214,.int .i64 216,.int .i64 246,.int .i64 248,.int .i64 255,.int .i64 913,.int .i64 929,.int .i64 931,.int .i64 974,.int .i64 1024,.int .i64 1119]) (.int .i64 3)).run Tryz.prog w=.ok (.agg #[.int .i64 192,.int .i64 214]) w:=by kernel_rfl
theorem word_ix4 (w:World):(Instr.index 335 (.agg #[.int .i64 48,.int .i64 57,.int .i64 65,.int .i64 90,.int .i64 97,.int .i64 122,.int .i64 192,.int .i64 214,.int .i64 216,.int .i64 246,.int .i64 248,.int .i64 255,.int .i64 913,.int .i64 929,.int .i64 931,.int .i64 974,.int .i64 1024,.int .i64 1119]) (.int .i64 4)).run Tryz.prog w=.ok (.agg #[.int .i64 216,.int .i64 246]) w:=by kernel_rfl
theorem word_ix5 (w:World):(Instr.index 335 (.agg #[.int .i64 48,.int .i64 57,.int .i64 65,.int .i64 90,.int .i64 97,.int .i64 122,.int .i64 192,.int .i64 214,.int .i64 216,.int .i64 246,.int .i64 248,.int .i64 255,.int .i64 913,.int .i64 929,.int .i64 931,.int .i64 974,.int .i64 1024,.int .i64 1119]) (.int .i64 5)).run Tryz.prog w=.ok (.agg #[.int .i64 248,.int .i64 255]) w:=by kernel_rfl
theorem word_ix6 (w:World):(Instr.index 335 (.agg #[.int .i64 48,.int .i64 57,.int .i64 65,.int .i64 90,.int .i64 97,.int .i64 122,.int .i64 192,.int .i64 214,.int .i64 216,.int .i64 246,.int .i64 248,.int .i64 255,.int .i64 913,.int .i64 929,.int .i64 931,.int .i64 974,.int .i64 1024,.int .i64 1119]) (.int .i64 6)).run Tryz.prog w=.ok (.agg #[.int .i64 913,.int .i64 929]) w:=by kernel_rfl
theorem word_ix7 (w:World):(Instr.index 335 (.agg #[.int .i64 48,.int .i64 57,.int .i64 65,.int .i64 90,.int .i64 97,.int .i64 122,.int .i64 192,.int .i64 214,.int .i64 216,.int .i64 246,.int .i64 248,.int .i64 255,.int .i64 913,.int .i64 929,.int .i64 931,.int .i64 974,.int .i64 1024,.int .i64 1119]) (.int .i64 7)).run Tryz.prog w=.ok (.agg #[.int .i64 931,.int .i64 974]) w:=by kernel_rfl
theorem word_ix8 (w:World):(Instr.index 335 (.agg #[.int .i64 48,.int .i64 57,.int .i64 65,.int .i64 90,.int .i64 97,.int .i64 122,.int .i64 192,.int .i64 214,.int .i64 216,.int .i64 246,.int .i64 248,.int .i64 255,.int .i64 913,.int .i64 929,.int .i64 931,.int .i64 974,.int .i64 1024,.int .i64 1119]) (.int .i64 8)).run Tryz.prog w=.ok (.agg #[.int .i64 1024,.int .i64 1119]) w:=by kernel_rfl
set_option maxRecDepth 100000 in
set_option maxHeartbeats 8000000 in
theorem word_any (r:Int) (w:World):Calls Tryz.prog 270 #[.int .i64 r] w fun e w'=>e=.returned (.bool (wordZ r))∧Below w.heap.size w w':=by
 go_enter Tryz.func270,Tryz.ntmps270
 go_wp2
 go_loopw [15] (fun i wr=>∃ k:Nat,k≤9∧i=.int .i64 k∧wordNo k r∧Below w.heap.size w wr) (fun i _=>9 - (intOf i).toNat)
 case atStart=>exact ⟨0,by omega,rfl,wordNo_zero r,Below.refl _ _⟩
 case round =>
  obtain ⟨k,hk,rfl,hno,hb⟩:=hrel
  have hsz:=hb.size
  have hk2:k=0∨k=1∨k=2∨k=3∨k=4∨k=5∨k=6∨k=7∨k=8∨k=9:=by omega
  rcases hk2 with rfl | rfl | rfl | rfl | rfl | rfl | rfl | rfl | rfl | rfl
  ·have hix:=word_ix0
   by_cases g:48≤r∧r≤57
   ·have e:=word_hit0 r g
    obtain ⟨g0,g1⟩:=g
    have E:=Lib.hid e
    clear e hno
    go_wp2
    go_ret
    exact ⟨ret_bool (by rw [E.out]),hb.alloc hsz _⟩
   ·have hno2:=wordNo_1 r hno g
    clear hno
    by_cases g0:48≤r
    ·have g1:¬ r≤57:=by omega
     clear g
     go_wp2
     go_roundw
     case rel=>exact ⟨1,by omega,by go_num,hno2,hb.alloc hsz _⟩
     case measure=>simp [intOf]
    ·clear g
     go_wp2
     go_roundw
     case rel=>exact ⟨1,by omega,by go_num,hno2,hb.alloc hsz _⟩
     case measure=>simp [intOf]
  ·have hix:=word_ix1
   by_cases g:65≤r∧r≤90
   ·have e:=word_hit1 r g
    obtain ⟨g0,g1⟩:=g
    have E:=Lib.hid e
    clear e hno
    go_wp2
    go_ret
    exact ⟨ret_bool (by rw [E.out]),hb.alloc hsz _⟩
   ·have hno2:=wordNo_2 r hno g
    clear hno
    by_cases g0:65≤r
    ·have g1:¬ r≤90:=by omega
     clear g
     go_wp2
     go_roundw
     case rel=>exact ⟨2,by omega,by go_num,hno2,hb.alloc hsz _⟩
     case measure=>simp [intOf]
    ·clear g
     go_wp2
     go_roundw
     case rel=>exact ⟨2,by omega,by go_num,hno2,hb.alloc hsz _⟩
     case measure=>simp [intOf]
  ·have hix:=word_ix2
   by_cases g:97≤r∧r≤122
   ·have e:=word_hit2 r g
    obtain ⟨g0,g1⟩:=g
    have E:=Lib.hid e
    clear e hno
    go_wp2
    go_ret
    exact ⟨ret_bool (by rw [E.out]),hb.alloc hsz _⟩
   ·have hno2:=wordNo_3 r hno g
    clear hno
    by_cases g0:97≤r
    ·have g1:¬ r≤122:=by omega
     clear g
     go_wp2
     go_roundw
     case rel=>exact ⟨3,by omega,by go_num,hno2,hb.alloc hsz _⟩
     case measure=>simp [intOf]
    ·clear g
     go_wp2
     go_roundw
     case rel=>exact ⟨3,by omega,by go_num,hno2,hb.alloc hsz _⟩
     case measure=>simp [intOf]
  ·have hix:=word_ix3
   by_cases g:192≤r∧r≤214
   ·have e:=word_hit3 r g
    obtain ⟨g0,g1⟩:=g
    have E:=Lib.hid e
    clear e hno
    go_wp2
    go_ret
    exact ⟨ret_bool (by rw [E.out]),hb.alloc hsz _⟩
   ·have hno2:=wordNo_4 r hno g
    clear hno
    by_cases g0:192≤r
    ·have g1:¬ r≤214:=by omega
     clear g
     go_wp2
     go_roundw
     case rel=>exact ⟨4,by omega,by go_num,hno2,hb.alloc hsz _⟩
     case measure=>simp [intOf]
    ·clear g
     go_wp2
     go_roundw
     case rel=>exact ⟨4,by omega,by go_num,hno2,hb.alloc hsz _⟩
     case measure=>simp [intOf]
  ·have hix:=word_ix4
   by_cases g:216≤r∧r≤246
   ·have e:=word_hit4 r g
    obtain ⟨g0,g1⟩:=g
    have E:=Lib.hid e
    clear e hno
    go_wp2
    go_ret
    exact ⟨ret_bool (by rw [E.out]),hb.alloc hsz _⟩
   ·have hno2:=wordNo_5 r hno g
    clear hno
    by_cases g0:216≤r
    ·have g1:¬ r≤246:=by omega
     clear g
     go_wp2
     go_roundw
     case rel=>exact ⟨5,by omega,by go_num,hno2,hb.alloc hsz _⟩
     case measure=>simp [intOf]
    ·clear g
     go_wp2
     go_roundw
     case rel=>exact ⟨5,by omega,by go_num,hno2,hb.alloc hsz _⟩
     case measure=>simp [intOf]
  ·have hix:=word_ix5
   by_cases g:248≤r∧r≤255
   ·have e:=word_hit5 r g
    obtain ⟨g0,g1⟩:=g
    have E:=Lib.hid e
    clear e hno
    go_wp2
    go_ret
    exact ⟨ret_bool (by rw [E.out]),hb.alloc hsz _⟩
   ·have hno2:=wordNo_6 r hno g
    clear hno
    by_cases g0:248≤r
    ·have g1:¬ r≤255:=by omega
     clear g
     go_wp2
     go_roundw
     case rel=>exact ⟨6,by omega,by go_num,hno2,hb.alloc hsz _⟩
     case measure=>simp [intOf]
    ·clear g
     go_wp2
     go_roundw
     case rel=>exact ⟨6,by omega,by go_num,hno2,hb.alloc hsz _⟩
     case measure=>simp [intOf]
  ·have hix:=word_ix6
   by_cases g:913≤r∧r≤929
   ·have e:=word_hit6 r g
    obtain ⟨g0,g1⟩:=g
    have E:=Lib.hid e
    clear e hno
    go_wp2
    go_ret
    exact ⟨ret_bool (by rw [E.out]),hb.alloc hsz _⟩
   ·have hno2:=wordNo_7 r hno g
    clear hno
    by_cases g0:913≤r
    ·have g1:¬ r≤929:=by omega
     clear g
     go_wp2
     go_roundw
     case rel=>exact ⟨7,by omega,by go_num,hno2,hb.alloc hsz _⟩
     case measure=>simp [intOf]
    ·clear g
     go_wp2
     go_roundw
     case rel=>exact ⟨7,by omega,by go_num,hno2,hb.alloc hsz _⟩
     case measure=>simp [intOf]
  ·have hix:=word_ix7
   by_cases g:931≤r∧r≤974
   ·have e:=word_hit7 r g
    obtain ⟨g0,g1⟩:=g
    have E:=Lib.hid e
    clear e hno
    go_wp2
    go_ret
    exact ⟨ret_bool (by rw [E.out]),hb.alloc hsz _⟩
   ·have hno2:=wordNo_8 r hno g
    clear hno
    by_cases g0:931≤r
    ·have g1:¬ r≤974:=by omega
     clear g
     go_wp2
     go_roundw
     case rel=>exact ⟨8,by omega,by go_num,hno2,hb.alloc hsz _⟩
     case measure=>simp [intOf]
    ·clear g
     go_wp2
     go_roundw
     case rel=>exact ⟨8,by omega,by go_num,hno2,hb.alloc hsz _⟩
     case measure=>simp [intOf]
  ·have hix:=word_ix8
   by_cases g:1024≤r∧r≤1119
   ·have e:=word_hit8 r g
    obtain ⟨g0,g1⟩:=g
    have E:=Lib.hid e
    clear e hno
    go_wp2
    go_ret
    exact ⟨ret_bool (by rw [E.out]),hb.alloc hsz _⟩
   ·have hno2:=wordNo_9 r hno g
    clear hno
    by_cases g0:1024≤r
    ·have g1:¬ r≤1119:=by omega
     clear g
     go_wp2
     go_roundw
     case rel=>exact ⟨9,by omega,by go_num,hno2,hb.alloc hsz _⟩
     case measure=>simp [intOf]
    ·clear g
     go_wp2
     go_roundw
     case rel=>exact ⟨9,by omega,by go_num,hno2,hb.alloc hsz _⟩
     case measure=>simp [intOf]
  ·have e:=wordNo_end r hno
   have E:=Lib.hid e
   clear e hno
   go_wp2
   go_ret
   exact ⟨ret_bool (by rw [E.out]),hb⟩
end Go.Proofs.YtdijhifdjbnkfaaGreat.UM
