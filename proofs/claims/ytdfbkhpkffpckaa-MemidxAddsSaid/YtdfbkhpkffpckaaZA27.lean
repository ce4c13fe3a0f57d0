import Derived.Test.YtdfbkhpkffpckaaZA21
import Derived.Test.YtdfbkhpkffpckaaZA12
set_option maxRecDepth 100000
set_option maxHeartbeats 8000000
set_option linter.unusedVariables false
set_option linter.unusedSimpArgs false
namespace Go.Proofs.Ytdfbkhpkffpckaa.MM
open Go
open EM (Ev Bat Fld Tr Trm checkB checkE sizeE sizeF termsE foldP wordsN posOf foldP_append)
open PM (Post)
open SM (Doc)
open RM (rowsE rowsT pairsP pairsP_append rowsE_rising termsE_ne)
def evM (l:List Doc):List Ev:=l.map (·.2)
theorem evM_len (l:List Doc):(evM l).length=l.length:=by simp [evM]
theorem evM_app (a b:List Doc):evM (a++b)=evM a++evM b:=by simp [evM]
theorem rowsE_snoc (es:List Ev) (e:Ev):rowsE (es++[e])=foldP (rowsE es) ((termsE e).map fun t=>(t.1,((es.length:Int),t.2))):=by
 unfold rowsE rowsT
 rw [List.map_append,pairsP_append,foldP_append,List.length_map,Int.zero_add]
 simp [pairsP]
theorem termsE_count (e:Ev):(termsE e).length≤sizeF e.2:=by
 have h1:=GM.len_places (T:=termsE e) (termsE_ne e)
 have h2:=GM.termsE_places e
 have h3:=GM.wordsN_le e.2
 omega
def BigM (l:List Doc):Prop:=l.length≤65536∧∀ d∈l,sizeF d.2.2≤65536∧0≤d.1∧d.1≤1099511627776∧d.2.2.length≤16∧checkE d.2=0∧sizeE d.2≤65536
theorem BigM.nil:BigM []:=⟨by simp,fun d h=>by simp at h⟩
theorem BigM.take {l:List Doc} (h:BigM l) (k:Nat):BigM (l.take k):=⟨by have:=h.1;rw [List.length_take];omega,fun d hd=>h.2 d (List.mem_of_mem_take hd)⟩
theorem foldP_count {α:Type}:∀ (qs:List (List UInt8×α)) (l:List (Tr α)),(foldP l qs).length≤l.length+qs.length
 | [],l=>Nat.le_refl _
 | (x,p)::qs,l=>by
   have e:foldP l ((x,p)::qs)=foldP (EM.addP l x p) qs:=rfl
   have h1:=foldP_count qs (EM.addP l x p)
   have h2:∀ (l:List (Tr α)),(EM.addP l x p).length≤l.length+1:=by
    intro l
    induction l with
    | nil=>simp [EM.addP]
    | cons t r ih =>
      rw [EM.addP]
      split
      ·rw [List.length_cons,List.length_cons];omega
      ·split
       ·simp
       ·simp
   have h3:=h2 l
   rw [e,List.length_cons]
   omega
theorem pairs_count:∀ (tss:List (List Trm)) (i:Int) (m:Nat),(∀ ts∈tss,ts.length≤m)→(pairsP i tss).length≤m*tss.length
 | [],i,m,_=>by simp [pairsP]
 | ts::r,i,m,h=>by
   have h1:=pairs_count r (i+1) m fun t ht=>h t (by simp [ht])
   have h2:=h ts (by simp)
   rw [pairsP,List.length_append,List.length_map,List.length_cons,Nat.mul_succ]
   omega
theorem rows_big {l:List Doc} (h:BigM l):(rowsE (evM l)).length≤1000000000000:=by
 unfold rowsE rowsT
 have h1:=foldP_count (pairsP 0 ((evM l).map termsE)) []
 have h2:=pairs_count ((evM l).map termsE) 0 65536 fun ts hts=>by
  obtain ⟨e,he,rfl⟩:=List.mem_map.1 hts
  obtain ⟨d,hd,rfl⟩:=List.mem_map.1 he
  exact Nat.le_trans (termsE_count d.2) (h.2 d hd).1
 rw [List.length_map,evM_len] at h2
 have h3:65536*l.length≤65536*65536:=Nat.mul_le_mul_left _ h.1
 simp only [List.length_nil] at h1
 omega
theorem posts_big {l:List Doc} (h:BigM l) (s:List UInt8):(posOf (rowsE (evM l)) s).length≤1000000000000:=by
 by_cases hn:posOf (rowsE (evM l)) s=[]
 ·rw [hn];simp
 ·have h1:=RM.rowsE_count (es:=evM l) (by rw [evM_len];exact h.1) (RM.posOf_some hn)
  have h2:(posOf (rowsE (evM l)) s).length≤65536:=h1
  omega
theorem sizeM_big {l:List Doc} (h:BigM l):sizeM l≤65552*l.length:=by
 replace h:=h.2
 induction l with
 | nil=>simp [sizeM]
 | cons d r ih =>
   have h1:=ih fun x hx=>h x (by simp [hx])
   have h2:=(h d (by simp)).1
   have e:sizeM (d::r)=sizeE d.2+sizeM r:=by simp [sizeM]
   have e2:sizeE d.2=16+sizeF d.2.2:=rfl
   rw [e,e2,List.length_cons,Nat.mul_succ]
   omega
theorem mem_le_sum:∀ {l:List Nat} {x:Nat},x∈l→x≤l.sum
 | y::l,x,h=>by
   rw [List.sum_cons]
   rcases List.mem_cons.1 h with rfl | h
   ·omega
   ·have:=mem_le_sum h;omega
theorem seqsM_app (l:List Doc) (d:Doc):seqsM (l++[d])=(if l=[] then d.1 else (seqsM l).1,d.1):=by
 unfold seqsM
 rw [if_neg (by simp)]
 cases l with
 | nil=>simp
 | cons x r=>simp
theorem seqs_big {l:List Doc} (h:BigM l):0≤(seqsM l).2∧(seqsM l).2≤1099511627776:=by
 unfold seqsM
 split
 ·exact ⟨by omega,by omega⟩
 ·rename_i hl
  have hp:=List.length_pos_iff.2 hl
  show 0≤(l.getD (l.length - 1) SM.noDoc).1∧(l.getD (l.length - 1) SM.noDoc).1≤1099511627776
  rw [List.getD_eq_getElem?_getD,List.getElem?_eq_getElem (by omega)]
  have h9:=(h.2 _ (List.getElem_mem (by omega:l.length - 1<l.length))).2
  exact ⟨h9.1,h9.2.1⟩
theorem addM_ok {l:List Doc} {b:Bat} (hc:checkB b=0):addM l b=if 0<l.length∧b.1≠(seqsM l).2+1 then (l,140) else if 65536<(l.length:Int)+(b.2.length:Int) then (l,3) else (l++docsM b,0):=by
 unfold addM seqsM
 rw [if_neg (by simp [hc])]
 cases l with
 | nil=>simp
 | cons d r =>
   rw [if_neg (c:=d::r=[]) (by simp)]
   have e1:(d::r≠[]∧b.1≠((d::r).getD ((d::r).length - 1) SM.noDoc).1+1)↔(0<(d::r).length∧b.1≠((d::r).getD ((d::r).length - 1) SM.noDoc).1+1):=by simp
   have e2:(65536 - ((d::r).length:Int)<(b.2.length:Int))↔(65536<((d::r).length:Int)+(b.2.length:Int)):=by omega
   simp only [e1,e2]
end Go.Proofs.Ytdfbkhpkffpckaa.MM
namespace Go.Proofs.Ytdfbkhpkffpckaa.MM
open Go.RowKit
theorem infoStr:(Try.prog.info? 9).map (fun i=>(i.zero,i.size,i.bytes))=some (some (.string ⟨#[]⟩),1,16):=by kernel_rfl
def strV (l:List UInt8):Value:=.string ⟨l.toArray⟩
def TIn (B:Nat) (w:World) (v:Value) (ss:List (List UInt8)):Prop:=RowIn B w v (ss.map strV)
def TRow (w:World) (v:Value) (ss:List (List UInt8)):Prop:=TIn w.heap.size w v ss
def OwnT (B:Nat) (w:World) (v:Value) (ss:List (List UInt8)):Prop:=w.ownsRow B 9 1 v ss.length (ss.map strV)
theorem OwnT.trow {B:Nat} {w:World} {v:Value} {ss:List (List UInt8)} (h:OwnT B w v ss):TRow w v ss:=Row.of_own h
theorem OwnT.keep {w w':World} {B:Nat} {v:Value} {ss:List (List UInt8)} (h:OwnT B w v ss) (hb:Below w.heap.size w w'):OwnT B w' v ss:=own_keep (B:=0) h hb
theorem OwnT.weaken {w:World} {B B':Nat} {v:Value} {ss:List (List UInt8)} (h:OwnT B w v ss) (hB:B'≤B):OwnT B' w v ss:=by
 refine ⟨h.1,?_⟩
 rcases h.2 with h0 | ⟨g,cap,cur,hv,hg,rest⟩
 ·exact .inl h0
 ·exact .inr ⟨g,cap,cur,hv,Nat.le_trans hB hg,rest⟩
theorem OwnT.nil_ (B:Nat) (w:World):OwnT B w (.slice none 0 0) []:=World.ownsRow_nil _ _ _ _
theorem OwnT.shape {w:World} {B:Nat} {v:Value} {ss:List (List UInt8)} (h:OwnT B w v ss):∃ p cap,v=.slice p ss.length cap∧ss.length≤cap∧cap≤maxLen:=by
 obtain ⟨p,cap,hv,h1,h2,_,_⟩:=h.trow
 rw [List.length_map] at hv h1
 exact ⟨p,cap,hv,h1,h2⟩
theorem TRow.below {w w':World} {v:Value} {ss:List (List UInt8)} (h:TRow w v ss) (hb:Below w.heap.size w w'):TRow w' v ss:=Row.below (B:=0) h hb
theorem TIn.below {B:Nat} {w w':World} {v:Value} {ss:List (List UInt8)} (h:TIn B w v ss) (hb:Below B w w'):TIn B w' v ss:=RowIn.below h hb
theorem TIn.mono {B B':Nat} {w:World} {v:Value} {ss:List (List UInt8)} (h:TIn B w v ss) (hB:B≤B'):TIn B' w v ss:=RowIn.mono h hB
theorem TIn.shape {B:Nat} {w:World} {v:Value} {ss:List (List UInt8)} (h:TIn B w v ss):∃ p cap,v=.slice p ss.length cap∧ss.length≤cap∧cap≤maxLen:=by
 obtain ⟨p,cap,hv,h1,h2,_,_⟩:=h
 rw [List.length_map] at hv h1
 exact ⟨p,cap,hv,h1,h2⟩
theorem TIn.at_ {B:Nat} {w:World} {p:Option Addr} {n cap:Nat} {ss:List (List UInt8)} (h:TIn B w (.slice p n cap) ss) {k:Nat} (hk:k<ss.length) :
  ∃ b off,p=some ⟨b,off,none⟩∧b<B∧w.cell? ⟨b,off+k,none⟩=some (.string ⟨(ss[k]).toArray⟩):=by
 obtain ⟨p',cap',hv,_,_,_,h⟩:=h
 simp only [Value.slice.injEq] at hv
 obtain ⟨rfl,_,_⟩:=hv
 rcases h with h | ⟨b,off,hp,hlt,hc⟩
 ·have:ss=[]:=List.map_eq_nil_iff.1 h
  subst this
  simp at hk
 ·exact ⟨b,off,hp,hlt,hc k _ (by simp [hk,strV])⟩
theorem wpList_append_str {w:World} {ops:Array Oper} {rest:List Oper} {o:Oper} {a:Act} {Q:Exit→Act→World→Prop} (hgd:o.guard=none) (s x:Operand)
  (ho:o.op=.call { callee:=.builtin .append,args:=#[s,x],argTypes:=#[158,158] }) (B:Nat) (v:Value) (ss:List (List UInt8)) (w0:World) (z:List UInt8) (hw:w=w0.alloc (.cells #[.string ⟨z.toArray⟩] 9)) (hs:a.eval s=v) (hown:OwnT B w0 v ss)
  (hx:a.eval x=.slice (some ⟨w0.heap.size,0,none⟩) 1 1) (hlen:ss.length≤1000000000000) (hbase:B≤w0.heap.size)
  (h:∀ v' w',OwnT B w' v' (ss++[z])→Below B w0 w'→wpList Try.prog ops Q rest (a.put o.dst v') w'):wpList Try.prog ops Q (o::rest) a w:=by
 subst hw
 obtain ⟨i0,hi,hz0,hz1,hz2⟩:=info_parts infoStr
 have hlo:∀ k,v.ownBlock=some k→B≤k:=fun k hk=>(World.ownsRow.lt hown k hk).1
 refine wpList_append_own _ hgd s x 158 ho B 9 i0 (.string ⟨#[]⟩) 1 16 Try.underlying158 hi hz0 hz1 hz2 rfl (by decide) v ss.length _ hs (World.ownsRow.alloc hown _) ⟨w0.heap.size,0,none⟩ 1 1 [.string ⟨z.toArray⟩] hx rfl (cell_new1 _ _ _) (by intro u hu;simp at hu;subst hu;rfl)
  (by unfold maxLen;omega) (by omega) (by simp;omega) (fun v' w' h1 hg _=>h v' w' ?_ (below_app (Below.refl B w0) hbase hlo hg))
 unfold OwnT
 rw [List.length_append,List.map_append]
 exact h1
end Go.Proofs.Ytdfbkhpkffpckaa.MM
