import Derived.Test.YtidhgicajlaafaaGreatZD10
set_option maxRecDepth 100000
set_option maxHeartbeats 8000000
set_option linter.unusedVariables false
set_option linter.unusedSimpArgs false
namespace Go.Proofs.YtidhgicajlaafaaGreat.EV
open Go Go.RowKit MM EM
def fldC:Codec Fld:=cPair cStr cStr
def evC:Codec Ev:=cPair cInt (cRow fldC)
def batC:Codec Bat:=cPair cInt (cRow evC)
theorem fld_on {S:Nat→Prop} {w:World} {cs:List Value} {f:Fld}:fldC.on S w cs f↔cs=[.string ⟨f.1.toArray⟩,.string ⟨f.2.toArray⟩]:=by
 constructor
 ·rintro ⟨x,y,rfl,hx,hy⟩
  have hx:x=[.string ⟨f.1.toArray⟩]:=hx
  have hy:y=[.string ⟨f.2.toArray⟩]:=hy
  rw [hx,hy];rfl
 ·rintro rfl
  exact ⟨[_],[_],rfl,rfl,rfl⟩
theorem ev_on {S:Nat→Prop} {w:World} {cs:List Value} {e:Ev}:evC.on S w cs e↔∃ v,cs=[.int .i64 e.1,v]∧ROn fldC S w v e.2:=by
 constructor
 ·rintro ⟨x,y,rfl,hx,v,hy,hr⟩
  have hx:x=[.int .i64 e.1]:=hx
  exact ⟨v,by rw [hx,hy];rfl,hr⟩
 ·rintro ⟨v,rfl,hr⟩
  exact ⟨[_],[v],rfl,rfl,v,rfl,hr⟩
theorem bat_on {S:Nat→Prop} {w:World} {cs:List Value} {b:Bat}:batC.on S w cs b↔∃ v,cs=[.int .i64 b.1,v]∧ROn evC S w v b.2:=by
 constructor
 ·rintro ⟨x,y,rfl,hx,v,hy,hr⟩
  have hx:x=[.int .i64 b.1]:=hx
  exact ⟨v,by rw [hx,hy];rfl,hr⟩
 ·rintro ⟨v,rfl,hr⟩
  exact ⟨[_],[v],rfl,rfl,v,rfl,hr⟩
theorem fld_at {S:Nat→Prop} {w:World} {p:Option Addr} {n cap:Nat} {fs:List Fld} (h:ROn fldC S w (.slice p n cap) fs) {k:Nat} (hk:k<fs.length) :
  ∃ b off,p=some ⟨b,off,none⟩∧b<w.heap.size∧S b∧w.cell? ⟨b,off+k*2,none⟩=some (.string ⟨fs[k].1.toArray⟩)∧w.cell? ⟨b,off+k*2+1,none⟩=some (.string ⟨fs[k].2.toArray⟩):=by
 obtain ⟨b,off,vs,hp,hlt,hS,hon,hc⟩:=h.at_ hk
 rw [fld_on] at hon
 subst hon
 exact ⟨b,off,hp,hlt,hS,hc 0 _ rfl,hc 1 _ rfl⟩
theorem ev_at {S:Nat→Prop} {w:World} {p:Option Addr} {n cap:Nat} {es:List Ev} (h:ROn evC S w (.slice p n cap) es) {k:Nat} (hk:k<es.length) :
  ∃ b off v,p=some ⟨b,off,none⟩∧b<w.heap.size∧S b∧w.cell? ⟨b,off+k*2,none⟩=some (.int .i64 es[k].1)∧w.cell? ⟨b,off+k*2+1,none⟩=some v∧ROn fldC S w v es[k].2:=by
 obtain ⟨b,off,vs,hp,hlt,hS,hon,hc⟩:=h.at_ hk
 rw [ev_on] at hon
 obtain ⟨v,rfl,hr⟩:=hon
 exact ⟨b,off,v,hp,hlt,hS,hc 0 _ rfl,hc 1 _ rfl,hr⟩
theorem str_list (l:List UInt8):(⟨l.toArray⟩:ByteArray).data.toList=l:=by simp
theorem str_sz (l:List UInt8):(⟨l.toArray⟩:ByteArray).size=l.length:=by rw [Lib.size_eq]
theorem new_two (w:World) (x y:Value) (t:TypeId):(w.alloc (.cells #[x,y] t)).cell? ⟨w.heap.size,0,none⟩=some x∧(w.alloc (.cells #[x,y] t)).cell? ⟨w.heap.size,1,none⟩=some y:=by
 have h0:=lit_cells w [x,y] t 0 x rfl
 have h1:=lit_cells w [x,y] t 1 y rfl
 rw [add_at] at h0 h1
 exact ⟨h0,h1⟩
end Go.Proofs.YtidhgicajlaafaaGreat.EV
namespace Go.Proofs.YtidhgicajlaafaaGreat.EV
open Go Go.RowKit MM EM
theorem intE:Elem cInt Tryz.prog 73 3 8:=⟨Tryz.underlying73,by
 have h:(Tryz.prog.info? 3).map (fun i=>(i.zero,i.size,i.bytes))=some (some (.int .i64 0),1,8):=by kernel_rfl
 obtain ⟨i,h1,h2,h3,h4⟩:=info_parts h
 exact ⟨i,_,h1,h2,h3,h4,rfl⟩⟩
def IntsOf (w:World) (b:Nat):Prop:=∃ cur fr,w.heap[b]? = some (.cells cur 3 fr)
def trmC:Codec Trm:=cPair cStr (cRow cInt)
theorem trm_on {S:Nat→Prop} {w:World} {cs:List Value} {t:Trm}:trmC.on S w cs t↔∃ v,cs=[.string ⟨t.1.toArray⟩,v]∧ROn cInt S w v t.2:=by
 constructor
 ·rintro ⟨x,y,rfl,hx,v,hy,hr⟩
  have hx:x=[.string ⟨t.1.toArray⟩]:=hx
  exact ⟨v,by rw [hx,hy];rfl,hr⟩
 ·rintro ⟨v,rfl,hr⟩
  exact ⟨[_],[v],rfl,rfl,v,rfl,hr⟩
theorem addP_len_le {α:Type}:∀ (l:List (EM.Tr α)) (s:List UInt8) (p:α),(addP l s p).length≤l.length+1
 | [],s,p=>by simp [addP]
 | t::r,s,p=>by
   have ih:=addP_len_le r s p
   rw [addP]
   split
   ·simp only [List.length_cons];omega
   ·split<;>simp
theorem ints_lit (w:World) (zs:List Int) (hl:zs.length≤maxLen):RAny cInt (w.alloc (.cells (zs.map fun z=>Value.int .i64 z).toArray 3)) (.slice (some ⟨w.heap.size,0,none⟩) zs.length zs.length) zs:=by
 have:=ron_lit (C:=cInt) (S:=fun _=>True) (e:=3) w (zs.map fun z=>[.int .i64 z]) zs hl ⟨by simp,fun i hi hi'=>by rw [List.getElem_map];rfl⟩
 rw [flat_singles] at this
 exact this.any
theorem trm_at {S:Nat→Prop} {w:World} {p:Option Addr} {n cap:Nat} {ts:List Trm} (h:ROn trmC S w (.slice p n cap) ts) {k:Nat} (hk:k<ts.length) :
  ∃ b off v,p=some ⟨b,off,none⟩∧b<w.heap.size∧S b∧w.cell? ⟨b,off+k*2,none⟩=some (.string ⟨ts[k].1.toArray⟩)∧w.cell? ⟨b,off+k*2+1,none⟩=some v∧ROn cInt S w v ts[k].2:=by
 obtain ⟨b,off,vs,hp,hlt,hS,hon,hc⟩:=h.at_ hk
 rw [trm_on] at hon
 obtain ⟨v,rfl,hr⟩:=hon
 exact ⟨b,off,v,hp,hlt,hS,hc 0 _ rfl,hc 1 _ rfl,hr⟩
def RNew (B:Nat) (w:World) (v:Value) (T:List Trm):Prop:=ROn trmC (fun b=>B≤b) w v T
theorem RNew.below {B:Nat} {w w':World} {v:Value} {T:List Trm} (h:RNew B w v T) (hb:Below w.heap.size w w'):RNew B w' v T:=ROn.keep h (kep_below _ hb) fun _ _ h=>h
theorem RNew.of {B:Nat} {w wd:World} {v:Value} {T:List Trm} (hB:B≤wd.heap.size) (h:ROn trmC (fun b=>B≤b∨wd.heap.size≤b) w v T):RNew B w v T:=ROn.weak h fun b _ hb=>hb.elim id fun h=>Nat.le_trans hB h
def TermsNew (T:List Trm) (w:World) (e:Ending) (w':World):Prop:=∃ u,e=.returned u∧RNew w.heap.size w' u T∧Below w.heap.size w w'
end Go.Proofs.YtidhgicajlaafaaGreat.EV
namespace Go.Proofs.YtidhgicajlaafaaGreat.SG
open Go Go.RowKit MM
open EM (lessL less_bytes)
def postC:Codec (Int×List Int):=cPair cInt (cRow cInt)
end Go.Proofs.YtidhgicajlaafaaGreat.SG
namespace Go.Proofs.YtidhgicajlaafaaGreat.MM
open Go
open EM (Ev Bat Fld Tr Trm checkB checkE sizeE sizeF termsE foldP wordsN posOf foldP_append)
open PM (Post)
open SM (Doc)
open RM (rowsE rowsT pairsP pairsP_append rowsE_rising termsE_ne)
def evM (l:List Doc):List Ev:=l.map (·.2)
theorem evM_len (l:List Doc):(evM l).length=l.length:=by simp [evM]
theorem evM_app (a b:List Doc):evM (a++b)=evM a++evM b:=by simp [evM]
theorem rowsE_snoc (es:List Ev) (e:Ev):rowsE (es++[e])=foldP (rowsE es) ((termsE e).map fun t=>(t.1,((es.length:Int),t.2))):=by
 unfold rowsE rowsT
 rw [List.map_append,pairsP_append,foldP_append,List.length_map,Int.zero_add]
 simp [pairsP]
theorem termsE_count (e:Ev):(termsE e).length≤sizeF e.2:=by
 have h1:=GM.len_places (T:=termsE e) (termsE_ne e)
 have h2:=GM.termsE_places e
 have h3:=GM.wordsN_le e.2
 omega
def BigM (l:List Doc):Prop:=l.length≤65536∧∀ d∈l,sizeF d.2.2≤65536∧0≤d.1∧d.1≤1099511627776∧d.2.2.length≤16∧checkE d.2=0∧sizeE d.2≤65536
theorem BigM.nil:BigM []:=⟨by simp,fun d h=>by simp at h⟩
theorem BigM.take {l:List Doc} (h:BigM l) (k:Nat):BigM (l.take k):=⟨by have:=h.1;rw [List.length_take];omega,fun d hd=>h.2 d (List.mem_of_mem_take hd)⟩
theorem foldP_count {α:Type}:∀ (qs:List (List UInt8×α)) (l:List (Tr α)),(foldP l qs).length≤l.length+qs.length
 | [],l=>Nat.le_refl _
 | (x,p)::qs,l=>by
   have e:foldP l ((x,p)::qs)=foldP (EM.addP l x p) qs:=rfl
   have h1:=foldP_count qs (EM.addP l x p)
   have h2:∀ (l:List (Tr α)),(EM.addP l x p).length≤l.length+1:=by
    intro l
    induction l with
    | nil=>simp [EM.addP]
    | cons t r ih =>
      rw [EM.addP]
      split
      ·rw [List.length_cons,List.length_cons];omega
      ·split
       ·simp
       ·simp
   have h3:=h2 l
   rw [e,List.length_cons]
   omega
theorem pairs_count:∀ (tss:List (List Trm)) (i:Int) (m:Nat),(∀ ts∈tss,ts.length≤m)→(pairsP i tss).length≤m*tss.length
 | [],i,m,_=>by simp [pairsP]
 | ts::r,i,m,h=>by
   have h1:=pairs_count r (i+1) m fun t ht=>h t (by simp [ht])
   have h2:=h ts (by simp)
   rw [pairsP,List.length_append,List.length_map,List.length_cons,Nat.mul_succ]
   omega
theorem rows_big {l:List Doc} (h:BigM l):(rowsE (evM l)).length≤1000000000000:=by
 unfold rowsE rowsT
 have h1:=foldP_count (pairsP 0 ((evM l).map termsE)) []
 have h2:=pairs_count ((evM l).map termsE) 0 65536 fun ts hts=>by
  obtain ⟨e,he,rfl⟩:=List.mem_map.1 hts
  obtain ⟨d,hd,rfl⟩:=List.mem_map.1 he
  exact Nat.le_trans (termsE_count d.2) (h.2 d hd).1
 rw [List.length_map,evM_len] at h2
 have h3:65536*l.length≤65536*65536:=Nat.mul_le_mul_left _ h.1
 simp only [List.length_nil] at h1
 omega
theorem posts_big {l:List Doc} (h:BigM l) (s:List UInt8):(posOf (rowsE (evM l)) s).length≤1000000000000:=by
 by_cases hn:posOf (rowsE (evM l)) s=[]
 ·rw [hn];simp
 ·have h1:=RM.rowsE_count (es:=evM l) (by rw [evM_len];exact h.1) (RM.posOf_some hn)
  have h2:(posOf (rowsE (evM l)) s).length≤65536:=h1
  omega
theorem sizeM_big {l:List Doc} (h:BigM l):sizeM l≤65552*l.length:=by
 replace h:=h.2
 induction l with
 | nil=>simp [sizeM]
 | cons d r ih =>
   have h1:=ih fun x hx=>h x (by simp [hx])
   have h2:=(h d (by simp)).1
   have e:sizeM (d::r)=sizeE d.2+sizeM r:=by simp [sizeM]
   have e2:sizeE d.2=16+sizeF d.2.2:=rfl
   rw [e,e2,List.length_cons,Nat.mul_succ]
   omega
theorem mem_le_sum:∀ {l:List Nat} {x:Nat},x∈l→x≤l.sum
 | y::l,x,h=>by
   rw [List.sum_cons]
   rcases List.mem_cons.1 h with rfl | h
   ·omega
   ·have:=mem_le_sum h;omega
theorem seqsM_app (l:List Doc) (d:Doc):seqsM (l++[d])=(if l=[] then d.1 else (seqsM l).1,d.1):=by
 unfold seqsM
 rw [if_neg (by simp)]
 cases l with
 | nil=>simp
 | cons x r=>simp
theorem seqs_big {l:List Doc} (h:BigM l):0≤(seqsM l).2∧(seqsM l).2≤1099511627776:=by
 unfold seqsM
 split
 ·exact ⟨by omega,by omega⟩
 ·rename_i hl
  have hp:=List.length_pos_iff.2 hl
  show 0≤(l.getD (l.length - 1) SM.noDoc).1∧(l.getD (l.length - 1) SM.noDoc).1≤1099511627776
  rw [List.getD_eq_getElem?_getD,List.getElem?_eq_getElem (by omega)]
  have h9:=(h.2 _ (List.getElem_mem (by omega:l.length - 1<l.length))).2
  exact ⟨h9.1,h9.2.1⟩
theorem addM_ok {l:List Doc} {b:Bat} (hc:checkB b=0):addM l b=if 0<l.length∧b.1≠(seqsM l).2+1 then (l,140) else if 65536<(l.length:Int)+(b.2.length:Int) then (l,3) else (l++docsM b,0):=by
 unfold addM seqsM
 rw [if_neg (by simp [hc])]
 cases l with
 | nil=>simp
 | cons d r =>
   rw [if_neg (c:=d::r=[]) (by simp)]
   have e1:(d::r≠[]∧b.1≠((d::r).getD ((d::r).length - 1) SM.noDoc).1+1)↔(0<(d::r).length∧b.1≠((d::r).getD ((d::r).length - 1) SM.noDoc).1+1):=by simp
   have e2:(65536 - ((d::r).length:Int)<(b.2.length:Int))↔(65536<((d::r).length:Int)+(b.2.length:Int)):=by omega
   simp only [e1,e2]
end Go.Proofs.YtidhgicajlaafaaGreat.MM
namespace Go.Proofs.YtidhgicajlaafaaGreat.EV
open Go Go.RowKit MM EM
abbrev Doc:=Int×Ev
def docC:Codec Doc:=cPair cInt evC
theorem doc_on {S:Nat→Prop} {w:World} {cs:List Value} {d:Doc}:docC.on S w cs d↔∃ v,cs=[.int .i64 d.1,.int .i64 d.2.1,v]∧ROn fldC S w v d.2.2:=by
 constructor
 ·rintro ⟨x,y,rfl,hx,hy⟩
  have hx:x=[.int .i64 d.1]:=hx
  obtain ⟨v,hv,hr⟩:=ev_on.1 hy
  exact ⟨v,by rw [hx,hv];rfl,hr⟩
 ·rintro ⟨v,rfl,hr⟩
  exact ⟨[_],[_,_],rfl,rfl,ev_on.2 ⟨v,rfl,hr⟩⟩
theorem fldE:Elem fldC Tryz.prog 49 93 32:=⟨Tryz.underlying49,by
 have h:(Tryz.prog.info? 93).map (fun i=>(i.zero,i.size,i.bytes))=some (some (.agg #[.string ⟨#[]⟩,.string ⟨#[]⟩]),2,32):=by kernel_rfl
 obtain ⟨i,h1,h2,h3,h4⟩:=info_parts h
 exact ⟨i,_,h1,h2,h3,h4,rfl⟩⟩
theorem fld_src {S S':Nat→Prop} {w:World} {v:Value} {fs:List Fld} (h:ROn fldC S w v fs):SrcX fldC S' w v fs:=by
 obtain ⟨p,cap,raw,hv,h1,h3,hm,hc⟩:=ROn.src h
 exact ⟨p,cap,raw,hv,h1,h3,⟨hm.1,fun i hi hi'=>fld_on.2 (fld_on.1 (hm.2 i hi hi'))⟩,hc⟩
theorem docE:Elem docC Tryz.prog 28 67 40:=⟨Tryz.underlying28,by
 have h:(Tryz.prog.info? 67).map (fun i=>(i.zero,i.size,i.bytes))=some (some (.agg #[.int .i64 0,.int .i64 0,.slice none 0 0]),3,40):=by kernel_rfl
 obtain ⟨i,h1,h2,h3,h4⟩:=info_parts h
 exact ⟨i,_,h1,h2,h3,h4,rfl⟩⟩
theorem doc_at {S:Nat→Prop} {w:World} {p:Option Addr} {n cap:Nat} {ds:List Doc} (h:ROn docC S w (.slice p n cap) ds) {k:Nat} (hk:k<ds.length) :
  ∃ b off v,p=some ⟨b,off,none⟩∧b<w.heap.size∧S b∧w.cell? ⟨b,off+k*3,none⟩=some (.int .i64 ds[k].1)∧w.cell? ⟨b,off+k*3+1,none⟩=some (.int .i64 ds[k].2.1)∧w.cell? ⟨b,off+k*3+2,none⟩=some v∧ROn fldC S w v ds[k].2.2:=by
 obtain ⟨b,off,vs,hp,hlt,hS,hon,hc⟩:=h.at_ hk
 rw [doc_on] at hon
 obtain ⟨v,rfl,hr⟩:=hon
 exact ⟨b,off,v,hp,hlt,hS,hc 0 _ rfl,hc 1 _ rfl,hc 2 _ rfl,hr⟩
end Go.Proofs.YtidhgicajlaafaaGreat.EV
namespace Go.Proofs.YtidhgicajlaafaaGreat.MM
open Go Go.RowKit
theorem results_row1 {P:Program} {fn:Func} {t:TypeId} {ty:TypeDesc} {p:Tmp} (h:fn.results=#[.cell p t]) (hu:P.underlying t=some ty) (hd:(match ty with | .struct _ | .array _ _=>true | _=>false)=true) (cs:Array Value) (hi:(P.info? t).map (·.size)=some cs.size) (tmps:Array Value) (w:World) (g:Nat)
  (hp:tmps.getD p undef=.pointer (some ⟨g,0,none⟩)) (hg:w.heap[g]? = some (.cells cs t (0,0))):(results fn tmps).run P w=.ok (.agg cs) w:=by
 have hp':tmps[p]?.getD undef=.pointer (some ⟨g,0,none⟩):=by simpa using hp
 have hl:=run_loadVar_row (P:=P) w g t t cs (0,0) ty hg hu hd hi
 simp [results,h,hp',asAddr,hl]
theorem row_cell {w:World} {g:Nat} {cs:Array Value} {t:TypeId} {fr:Nat×Nat} (h:w.heap[g]? = some (.cells cs t fr)) (i:Nat):w.cell? ⟨g,i,none⟩=cs[i]? := cell_of_row w g i _ _ _ h
end Go.Proofs.YtidhgicajlaafaaGreat.MM
