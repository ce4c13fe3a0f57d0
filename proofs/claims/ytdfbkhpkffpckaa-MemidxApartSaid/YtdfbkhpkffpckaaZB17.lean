import Derived.Test.YtdfbkhpkffpckaaZB16
set_option maxRecDepth 100000
set_option maxHeartbeats 8000000
set_option linter.unusedVariables false
set_option linter.unusedSimpArgs false
namespace Go.Proofs.Ytdfbkhpkffpckaa.GM
open Go VM
open TK (wordsB wordsB_count)
open EM (Ev Tr Trm Fld Rising posOf termsE termsF placesT foldP foldP_perm places_len wordsN sizeF addP checkE)
open PM (Post isL)
open RM (rowsE rowsT pairsP pairsP_append termsE_ok termsE_bad termsE_ne rowsE_count)
theorem sizeF_cons (f:Fld) (r:List Fld):sizeF (f::r)=f.1.length+f.2.length+sizeF r:=by simp [sizeF]
theorem wordsN_le:∀ fs:List Fld,wordsN fs≤sizeF fs
 | []=>by simp [wordsN]
 | f::r=>by
   have h1:=wordsN_le r
   have h2:=wordsB_count f.2
   have e:wordsN (f::r)=(wordsB f.2).length+wordsN r:=by simp [wordsN]
   rw [e,sizeF_cons]
   omega
theorem places_cons {α:Type} (t:Tr α) (T:List (Tr α)):(placesT (t::T)).length=t.2.length+(placesT T).length:=by simp [placesT]
theorem len_places {α:Type}:∀ {T:List (Tr α)},(∀ t∈T,t.2≠[])→T.length≤(placesT T).length
 | [],_=>by simp
 | t::T,h=>by
   have h1:=len_places (T:=T) fun u hu=>h u (by simp [hu])
   have h2:=List.length_pos_iff.2 (h t (by simp))
   rw [places_cons,List.length_cons]
   omega
theorem termsE_places (e:Ev):(placesT (termsE e)).length≤wordsN e.2:=by
 by_cases h:checkE e=0
 ·rw [termsE_ok h,places_len];exact Nat.le_refl _
 ·rw [termsE_bad h];simp [placesT]
end Go.Proofs.Ytdfbkhpkffpckaa.GM
namespace Go.Proofs.Ytdfbkhpkffpckaa.MM
open Go
open EM (Ev Bat Fld Tr Trm checkB checkE sizeE sizeF termsE foldP wordsN posOf foldP_append)
open PM (Post)
open SM (Doc)
open RM (rowsE rowsT pairsP pairsP_append rowsE_rising termsE_ne)
def evM (l:List Doc):List Ev:=l.map (·.2)
theorem evM_len (l:List Doc):(evM l).length=l.length:=by simp [evM]
theorem evM_app (a b:List Doc):evM (a++b)=evM a++evM b:=by simp [evM]
theorem rowsE_snoc (es:List Ev) (e:Ev):rowsE (es++[e])=foldP (rowsE es) ((termsE e).map fun t=>(t.1,((es.length:Int),t.2))):=by
 unfold rowsE rowsT
 rw [List.map_append,pairsP_append,foldP_append,List.length_map,Int.zero_add]
 simp [pairsP]
theorem termsE_count (e:Ev):(termsE e).length≤sizeF e.2:=by
 have h1:=GM.len_places (T:=termsE e) (termsE_ne e)
 have h2:=GM.termsE_places e
 have h3:=GM.wordsN_le e.2
 omega
def BigM (l:List Doc):Prop:=l.length≤65536∧∀ d∈l,sizeF d.2.2≤65536∧0≤d.1∧d.1≤1099511627776∧d.2.2.length≤16∧checkE d.2=0∧sizeE d.2≤65536
theorem BigM.nil:BigM []:=⟨by simp,fun d h=>by simp at h⟩
theorem BigM.take {l:List Doc} (h:BigM l) (k:Nat):BigM (l.take k):=⟨by have:=h.1;rw [List.length_take];omega,fun d hd=>h.2 d (List.mem_of_mem_take hd)⟩
theorem foldP_count {α:Type}:∀ (qs:List (List UInt8×α)) (l:List (Tr α)),(foldP l qs).length≤l.length+qs.length
 | [],l=>Nat.le_refl _
 | (x,p)::qs,l=>by
   have e:foldP l ((x,p)::qs)=foldP (EM.addP l x p) qs:=rfl
   have h1:=foldP_count qs (EM.addP l x p)
   have h2:∀ (l:List (Tr α)),(EM.addP l x p).length≤l.length+1:=by
    intro l
    induction l with
    | nil=>simp [EM.addP]
    | cons t r ih =>
      rw [EM.addP]
      split
      ·rw [List.length_cons,List.length_cons];omega
      ·split
       ·simp
       ·simp
   have h3:=h2 l
   rw [e,List.length_cons]
   omega
theorem pairs_count:∀ (tss:List (List Trm)) (i:Int) (m:Nat),(∀ ts∈tss,ts.length≤m)→(pairsP i tss).length≤m*tss.length
 | [],i,m,_=>by simp [pairsP]
 | ts::r,i,m,h=>by
   have h1:=pairs_count r (i+1) m fun t ht=>h t (by simp [ht])
   have h2:=h ts (by simp)
   rw [pairsP,List.length_append,List.length_map,List.length_cons,Nat.mul_succ]
   omega
theorem rows_big {l:List Doc} (h:BigM l):(rowsE (evM l)).length≤1000000000000:=by
 unfold rowsE rowsT
 have h1:=foldP_count (pairsP 0 ((evM l).map termsE)) []
 have h2:=pairs_count ((evM l).map termsE) 0 65536 fun ts hts=>by
  obtain ⟨e,he,rfl⟩:=List.mem_map.1 hts
  obtain ⟨d,hd,rfl⟩:=List.mem_map.1 he
  exact Nat.le_trans (termsE_count d.2) (h.2 d hd).1
 rw [List.length_map,evM_len] at h2
 have h3:65536*l.length≤65536*65536:=Nat.mul_le_mul_left _ h.1
 simp only [List.length_nil] at h1
 omega
theorem posts_big {l:List Doc} (h:BigM l) (s:List UInt8):(posOf (rowsE (evM l)) s).length≤1000000000000:=by
 by_cases hn:posOf (rowsE (evM l)) s=[]
 ·rw [hn];simp
 ·have h1:=RM.rowsE_count (es:=evM l) (by rw [evM_len];exact h.1) (RM.posOf_some hn)
  have h2:(posOf (rowsE (evM l)) s).length≤65536:=h1
  omega
theorem sizeM_big {l:List Doc} (h:BigM l):sizeM l≤65552*l.length:=by
 replace h:=h.2
 induction l with
 | nil=>simp [sizeM]
 | cons d r ih =>
   have h1:=ih fun x hx=>h x (by simp [hx])
   have h2:=(h d (by simp)).1
   have e:sizeM (d::r)=sizeE d.2+sizeM r:=by simp [sizeM]
   have e2:sizeE d.2=16+sizeF d.2.2:=rfl
   rw [e,e2,List.length_cons,Nat.mul_succ]
   omega
theorem mem_le_sum:∀ {l:List Nat} {x:Nat},x∈l→x≤l.sum
 | y::l,x,h=>by
   rw [List.sum_cons]
   rcases List.mem_cons.1 h with rfl | h
   ·omega
   ·have:=mem_le_sum h;omega
theorem seqsM_app (l:List Doc) (d:Doc):seqsM (l++[d])=(if l=[] then d.1 else (seqsM l).1,d.1):=by
 unfold seqsM
 rw [if_neg (by simp)]
 cases l with
 | nil=>simp
 | cons x r=>simp
theorem seqs_big {l:List Doc} (h:BigM l):0≤(seqsM l).2∧(seqsM l).2≤1099511627776:=by
 unfold seqsM
 split
 ·exact ⟨by omega,by omega⟩
 ·rename_i hl
  have hp:=List.length_pos_iff.2 hl
  show 0≤(l.getD (l.length - 1) SM.noDoc).1∧(l.getD (l.length - 1) SM.noDoc).1≤1099511627776
  rw [List.getD_eq_getElem?_getD,List.getElem?_eq_getElem (by omega)]
  have h9:=(h.2 _ (List.getElem_mem (by omega:l.length - 1<l.length))).2
  exact ⟨h9.1,h9.2.1⟩
theorem addM_ok {l:List Doc} {b:Bat} (hc:checkB b=0):addM l b=if 0<l.length∧b.1≠(seqsM l).2+1 then (l,140) else if 65536<(l.length:Int)+(b.2.length:Int) then (l,3) else (l++docsM b,0):=by
 unfold addM seqsM
 rw [if_neg (by simp [hc])]
 cases l with
 | nil=>simp
 | cons d r =>
   rw [if_neg (c:=d::r=[]) (by simp)]
   have e1:(d::r≠[]∧b.1≠((d::r).getD ((d::r).length - 1) SM.noDoc).1+1)↔(0<(d::r).length∧b.1≠((d::r).getD ((d::r).length - 1) SM.noDoc).1+1):=by simp
   have e2:(65536 - ((d::r).length:Int)<(b.2.length:Int))↔(65536<((d::r).length:Int)+(b.2.length:Int)):=by omega
   simp only [e1,e2]
end Go.Proofs.Ytdfbkhpkffpckaa.MM
namespace Go.Proofs.Ytdfbkhpkffpckaa.UM
open Go.RowKit
theorem infoByte:(Try.prog.info? 5).map (fun i=>(i.zero,i.size,i.bytes))=some (some (.int .u8 0),1,1):=by kernel_rfl
theorem cells_norm (r:Int):Lib.runeCells (norm r)=Lib.runeCells r:=by unfold Lib.runeCells;rw [encodeRuneZ_norm]
def enco (r:Int):Int:=if r<0∨1114111<r then 65533 else r
theorem enco_cells (r:Int):Lib.runeCells (enco r)=Lib.runeCells r:=by
 unfold enco
 split
 ·rename_i h
  have:norm r=65533:=by unfold norm;rw [if_pos (by omega)]
  rw [← this,cells_norm]
 ·rfl
theorem enco_bd (r:Int) : -2147483648≤enco r∧enco r≤2147483647:=by unfold enco;split<;>omega
theorem encodable_any (r:Int) (w:World):Calls Try.prog 138 #[.int .i64 r] w fun e w'=>e=.returned (.int .i32 (enco r))∧w=w':=by
 unfold enco
 by_cases c1:r<0
 ·rw [if_pos (by omega)]
  go_enter Try.func138,Try.ntmps138
  go_wp2
  go_ret
  exact ⟨rfl,rfl⟩
 ·by_cases c2:1114111<r
  ·rw [if_pos (by omega)]
   go_enter Try.func138,Try.ntmps138
   go_wp2
   go_ret
   exact ⟨rfl,rfl⟩
  ·rw [if_neg (by omega)]
   have c3:0≤r:=by omega
   have c4:r≤1114111:=by omega
   go_enter Try.func138,Try.ntmps138
   go_wp2
   go_ret
   exact ⟨rfl,rfl⟩
end Go.Proofs.Ytdfbkhpkffpckaa.UM
namespace Go.Proofs.Ytdfbkhpkffpckaa.UM
open Go.RowKit
def lowNo (k:Nat) (r:Int):Prop:=(1≤k→¬ (65≤r∧r≤90))∧(2≤k→¬ (192≤r∧r≤214))∧(3≤k→¬ (216≤r∧r≤222))∧(4≤k→¬ (913≤r∧r≤929))∧(5≤k→¬ (931≤r∧r≤939))∧(6≤k→¬ (1024≤r∧r≤1039))∧(7≤k→¬ (1040≤r∧r≤1071))
theorem lowNo_zero (r:Int):lowNo 0 r:=by unfold lowNo;omega
theorem lowNo_1 (r:Int) (h:lowNo 0 r) (g:¬ (65≤r∧r≤90)):lowNo 1 r:=by unfold lowNo at *;omega
theorem lowNo_2 (r:Int) (h:lowNo 1 r) (g:¬ (192≤r∧r≤214)):lowNo 2 r:=by unfold lowNo at *;omega
theorem lowNo_3 (r:Int) (h:lowNo 2 r) (g:¬ (216≤r∧r≤222)):lowNo 3 r:=by unfold lowNo at *;omega
theorem lowNo_4 (r:Int) (h:lowNo 3 r) (g:¬ (913≤r∧r≤929)):lowNo 4 r:=by unfold lowNo at *;omega
theorem lowNo_5 (r:Int) (h:lowNo 4 r) (g:¬ (931≤r∧r≤939)):lowNo 5 r:=by unfold lowNo at *;omega
theorem lowNo_6 (r:Int) (h:lowNo 5 r) (g:¬ (1024≤r∧r≤1039)):lowNo 6 r:=by unfold lowNo at *;omega
theorem lowNo_7 (r:Int) (h:lowNo 6 r) (g:¬ (1040≤r∧r≤1071)):lowNo 7 r:=by unfold lowNo at *;omega
theorem lowNo_end (r:Int) (h:lowNo 7 r):lowerZ r=r:=by unfold lowNo at h;unfold lowerZ;(repeat' split)<;>omega
theorem low_hit0 (r:Int) (g:65≤r∧r≤90):lowerZ r=r+32:=by unfold lowerZ;(repeat' split)<;>omega
theorem low_hit1 (r:Int) (g:192≤r∧r≤214):lowerZ r=r+32:=by unfold lowerZ;(repeat' split)<;>omega
theorem low_hit2 (r:Int) (g:216≤r∧r≤222):lowerZ r=r+32:=by unfold lowerZ;(repeat' split)<;>omega
theorem low_hit3 (r:Int) (g:913≤r∧r≤929):lowerZ r=r+32:=by unfold lowerZ;(repeat' split)<;>omega
theorem low_hit4 (r:Int) (g:931≤r∧r≤939):lowerZ r=r+32:=by unfold lowerZ;(repeat' split)<;>omega
theorem low_hit5 (r:Int) (g:1024≤r∧r≤1039):lowerZ r=r+80:=by unfold lowerZ;(repeat' split)<;>omega
theorem low_hit6 (r:Int) (g:1040≤r∧r≤1071):lowerZ r=r+32:=by unfold lowerZ;(repeat' split)<;>omega
def wordNo (k:Nat) (r:Int):Prop:=(1≤k→¬ (48≤r∧r≤57))∧(2≤k→¬ (65≤r∧r≤90))∧(3≤k→¬ (97≤r∧r≤122))∧(4≤k→¬ (192≤r∧r≤214))∧(5≤k→¬ (216≤r∧r≤246))∧(6≤k→¬ (248≤r∧r≤255))∧(7≤k→¬ (913≤r∧r≤929))∧(8≤k→¬ (931≤r∧r≤974))∧(9≤k→¬ (1024≤r∧r≤1119))
theorem wordNo_zero (r:Int):wordNo 0 r:=by unfold wordNo;omega
theorem wordNo_1 (r:Int) (h:wordNo 0 r) (g:¬ (48≤r∧r≤57)):wordNo 1 r:=by unfold wordNo at *;omega
theorem wordNo_2 (r:Int) (h:wordNo 1 r) (g:¬ (65≤r∧r≤90)):wordNo 2 r:=by unfold wordNo at *;omega
theorem wordNo_3 (r:Int) (h:wordNo 2 r) (g:¬ (97≤r∧r≤122)):wordNo 3 r:=by unfold wordNo at *;omega
theorem wordNo_4 (r:Int) (h:wordNo 3 r) (g:¬ (192≤r∧r≤214)):wordNo 4 r:=by unfold wordNo at *;omega
theorem wordNo_5 (r:Int) (h:wordNo 4 r) (g:¬ (216≤r∧r≤246)):wordNo 5 r:=by unfold wordNo at *;omega
theorem wordNo_6 (r:Int) (h:wordNo 5 r) (g:¬ (248≤r∧r≤255)):wordNo 6 r:=by unfold wordNo at *;omega
theorem wordNo_7 (r:Int) (h:wordNo 6 r) (g:¬ (913≤r∧r≤929)):wordNo 7 r:=by unfold wordNo at *;omega
theorem wordNo_8 (r:Int) (h:wordNo 7 r) (g:¬ (931≤r∧r≤974)):wordNo 8 r:=by unfold wordNo at *;omega
theorem wordNo_9 (r:Int) (h:wordNo 8 r) (g:¬ (1024≤r∧r≤1119)):wordNo 9 r:=by unfold wordNo at *;omega
theorem wordNo_end (r:Int) (h:wordNo 9 r):wordZ r=false:=by unfold wordNo at h;unfold wordZ;exact decide_eq_false (by omega)
theorem word_hit0 (r:Int) (g:48≤r∧r≤57):wordZ r=true:=by unfold wordZ;exact decide_eq_true (by omega)
theorem word_hit1 (r:Int) (g:65≤r∧r≤90):wordZ r=true:=by unfold wordZ;exact decide_eq_true (by omega)
theorem word_hit2 (r:Int) (g:97≤r∧r≤122):wordZ r=true:=by unfold wordZ;exact decide_eq_true (by omega)
theorem word_hit3 (r:Int) (g:192≤r∧r≤214):wordZ r=true:=by unfold wordZ;exact decide_eq_true (by omega)
theorem word_hit4 (r:Int) (g:216≤r∧r≤246):wordZ r=true:=by unfold wordZ;exact decide_eq_true (by omega)
theorem word_hit5 (r:Int) (g:248≤r∧r≤255):wordZ r=true:=by unfold wordZ;exact decide_eq_true (by omega)
theorem word_hit6 (r:Int) (g:913≤r∧r≤929):wordZ r=true:=by unfold wordZ;exact decide_eq_true (by omega)
theorem word_hit7 (r:Int) (g:931≤r∧r≤974):wordZ r=true:=by unfold wordZ;exact decide_eq_true (by omega)
theorem word_hit8 (r:Int) (g:1024≤r∧r≤1119):wordZ r=true:=by unfold wordZ;exact decide_eq_true (by omega)
theorem ret_int {k:IntKind} {a b:Int} (h:a=b):Ending.returned (.int k a)=.returned (.int k b):=by rw [h]
theorem ret_bool {a b:Bool} (h:a=b):Ending.returned (.bool a)=.returned (.bool b):=by rw [h]
end Go.Proofs.Ytdfbkhpkffpckaa.UM
