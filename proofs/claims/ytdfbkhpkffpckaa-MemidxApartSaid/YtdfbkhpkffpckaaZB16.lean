import Derived.Test.YtdfbkhpkffpckaaZB13
import Derived.Test.YtdfbkhpkffpckaaZB9
import Derived.Test.YtdfbkhpkffpckaaZB15
set_option maxRecDepth 100000
set_option maxHeartbeats 8000000
set_option linter.unusedVariables false
set_option linter.unusedSimpArgs false
namespace Go.Proofs.Ytdfbkhpkffpckaa.DM
open Go VM
open EM (lessL lessL_irr lessL_trans lessL_total lessL_ne)
end Go.Proofs.Ytdfbkhpkffpckaa.DM
namespace Go.Proofs.Ytdfbkhpkffpckaa.SM
open Go VM
open EM (Fld Ev checkE sizeF sizeF_of_ok checkE_ok)
abbrev Doc:=Int×Ev
def noDoc:Doc:=(0,(0,[]))
end Go.Proofs.Ytdfbkhpkffpckaa.SM
namespace Go.Proofs.Ytdfbkhpkffpckaa.MM
open Go
open EM (Ev Bat Tr Trm checkB checkE sizeE termsE termsF termsF_pos termsF_perm pairsF pairsF_rise Rising posOf posOf_none placesT lessL lessL_irr lessL_ne lessL_trans lessL_total checkE_ok foldP)
open PM (Post riseF riseL isL isL_ok okL okP)
open SM (Doc)
open RM (termsE_ok termsE_bad termsE_rising termsE_ne termsE_rise posOf_mem posOf_some riseF_of okL_mono postsT rowsE rowsE_rising rowsE_posts postsT_mem pairsF_above baseF_le)
def docsM (b:Bat):List Doc:=b.2.zipIdx.map fun p=>(b.1+(p.2:Int),p.1)
theorem docsM_len (b:Bat):(docsM b).length=b.2.length:=by simp [docsM]
theorem docsM_at {b:Bat} {k:Nat} (hk:k<b.2.length):(docsM b)[k]'(by rw [docsM_len];exact hk)=(b.1+(k:Int),b.2[k]):=by simp [docsM]
def addM (l:List Doc) (b:Bat):List Doc×Int :=
 if checkB b≠0 then (l,checkB b)
 else if l≠[]∧b.1≠(l.getD (l.length - 1) SM.noDoc).1+1 then (l,140)
 else if 65536 - (l.length:Int)<(b.2.length:Int) then (l,3)
 else (l++docsM b,0)
def sizeM (l:List Doc):Nat:=(l.map fun d=>sizeE d.2).sum
theorem sizeM_append (a b:List Doc):sizeM (a++b)=sizeM a+sizeM b:=by simp [sizeM]
def timesM:List Doc→Int×Int×Bool
 | []=>(0,0,false)
 | d::r=>(r.foldl (fun z x=>min z x.2.1) d.2.1,r.foldl (fun z x=>max z x.2.1) d.2.1,true)
theorem timesM_append {l:List Doc} (h:l≠[]) (d:Doc):timesM (l++[d])=(min (timesM l).1 d.2.1,max (timesM l).2.1 d.2.1,true):=by
 cases l with
 | nil=>exact absurd rfl h
 | cons x r=>simp [timesM]
def seqsM (l:List Doc):Int×Int:=if l=[] then (0,0) else ((l.getD 0 SM.noDoc).1,(l.getD (l.length - 1) SM.noDoc).1)
end Go.Proofs.Ytdfbkhpkffpckaa.MM
namespace Go.Proofs.Ytdfbkhpkffpckaa.MM
open Go Go.RowKit
theorem text_size {s:ByteArray} {l:List UInt8} (hl:s.data.toList=l):s.size=l.length:=by rw [Lib.size_eq,hl]
theorem text_part (l:List UInt8) (a b:Nat):(⟨l.toArray⟩:ByteArray).extract a b=⟨((l.drop a).take (b - a)).toArray⟩:=by
 apply ByteArray.ext
 rw [ByteArray.data_extract]
 apply Array.toList_inj.1
 simp [List.extract_eq_take_drop]
end Go.Proofs.Ytdfbkhpkffpckaa.MM
namespace Go.Proofs.Ytdfbkhpkffpckaa.EV
open Go Go.RowKit MM EM
theorem intE:Elem cInt Try.prog 27 3 8:=⟨Try.underlying27,by
 have h:(Try.prog.info? 3).map (fun i=>(i.zero,i.size,i.bytes))=some (some (.int .i64 0),1,8):=by kernel_rfl
 obtain ⟨i,h1,h2,h3,h4⟩:=info_parts h
 exact ⟨i,_,h1,h2,h3,h4,rfl⟩⟩
def IntsOf (w:World) (b:Nat):Prop:=∃ cur fr,w.heap[b]? = some (.cells cur 3 fr)
def trmC:Codec Trm:=cPair cStr (cRow cInt)
theorem trm_on {S:Nat→Prop} {w:World} {cs:List Value} {t:Trm}:trmC.on S w cs t↔∃ v,cs=[.string ⟨t.1.toArray⟩,v]∧ROn cInt S w v t.2:=by
 constructor
 ·rintro ⟨x,y,rfl,hx,v,hy,hr⟩
  have hx:x=[.string ⟨t.1.toArray⟩]:=hx
  exact ⟨v,by rw [hx,hy];rfl,hr⟩
 ·rintro ⟨v,rfl,hr⟩
  exact ⟨[_],[v],rfl,rfl,v,rfl,hr⟩
theorem addP_len_le {α:Type}:∀ (l:List (EM.Tr α)) (s:List UInt8) (p:α),(addP l s p).length≤l.length+1
 | [],s,p=>by simp [addP]
 | t::r,s,p=>by
   have ih:=addP_len_le r s p
   rw [addP]
   split
   ·simp only [List.length_cons];omega
   ·split<;>simp
theorem ints_lit (w:World) (zs:List Int) (hl:zs.length≤maxLen):RAny cInt (w.alloc (.cells (zs.map fun z=>Value.int .i64 z).toArray 3)) (.slice (some ⟨w.heap.size,0,none⟩) zs.length zs.length) zs:=by
 have:=ron_lit (C:=cInt) (S:=fun _=>True) (e:=3) w (zs.map fun z=>[.int .i64 z]) zs hl ⟨by simp,fun i hi hi'=>by rw [List.getElem_map];rfl⟩
 rw [flat_singles] at this
 exact this.any
theorem trm_at {S:Nat→Prop} {w:World} {p:Option Addr} {n cap:Nat} {ts:List Trm} (h:ROn trmC S w (.slice p n cap) ts) {k:Nat} (hk:k<ts.length) :
  ∃ b off v,p=some ⟨b,off,none⟩∧b<w.heap.size∧S b∧w.cell? ⟨b,off+k*2,none⟩=some (.string ⟨ts[k].1.toArray⟩)∧w.cell? ⟨b,off+k*2+1,none⟩=some v∧ROn cInt S w v ts[k].2:=by
 obtain ⟨b,off,vs,hp,hlt,hS,hon,hc⟩:=h.at_ hk
 rw [trm_on] at hon
 obtain ⟨v,rfl,hr⟩:=hon
 exact ⟨b,off,v,hp,hlt,hS,hc 0 _ rfl,hc 1 _ rfl,hr⟩
def RNew (B:Nat) (w:World) (v:Value) (T:List Trm):Prop:=ROn trmC (fun b=>B≤b) w v T
theorem RNew.below {B:Nat} {w w':World} {v:Value} {T:List Trm} (h:RNew B w v T) (hb:Below w.heap.size w w'):RNew B w' v T:=ROn.keep h (kep_below _ hb) fun _ _ h=>h
def TermsNew (T:List Trm) (w:World) (e:Ending) (w':World):Prop:=∃ u,e=.returned u∧RNew w.heap.size w' u T∧Below w.heap.size w w'
end Go.Proofs.Ytdfbkhpkffpckaa.EV
namespace Go.Proofs.Ytdfbkhpkffpckaa.SG
open Go Go.RowKit MM
open EM (lessL less_bytes)
def postC:Codec (Int×List Int):=cPair cInt (cRow cInt)
end Go.Proofs.Ytdfbkhpkffpckaa.SG
namespace Go.Proofs.Ytdfbkhpkffpckaa.EV
open Go Go.RowKit MM EM
abbrev Doc:=Int×Ev
def docC:Codec Doc:=cPair cInt evC
theorem doc_on {S:Nat→Prop} {w:World} {cs:List Value} {d:Doc}:docC.on S w cs d↔∃ v,cs=[.int .i64 d.1,.int .i64 d.2.1,v]∧ROn fldC S w v d.2.2:=by
 constructor
 ·rintro ⟨x,y,rfl,hx,hy⟩
  have hx:x=[.int .i64 d.1]:=hx
  obtain ⟨v,hv,hr⟩:=ev_on.1 hy
  exact ⟨v,by rw [hx,hv];rfl,hr⟩
 ·rintro ⟨v,rfl,hr⟩
  exact ⟨[_],[_,_],rfl,rfl,ev_on.2 ⟨v,rfl,hr⟩⟩
theorem fldE:Elem fldC Try.prog 31 85 32:=⟨Try.underlying31,by
 have h:(Try.prog.info? 85).map (fun i=>(i.zero,i.size,i.bytes))=some (some (.agg #[.string ⟨#[]⟩,.string ⟨#[]⟩]),2,32):=by kernel_rfl
 obtain ⟨i,h1,h2,h3,h4⟩:=info_parts h
 exact ⟨i,_,h1,h2,h3,h4,rfl⟩⟩
theorem fld_src {S S':Nat→Prop} {w:World} {v:Value} {fs:List Fld} (h:ROn fldC S w v fs):SrcX fldC S' w v fs:=by
 obtain ⟨p,cap,raw,hv,h1,h3,hm,hc⟩:=ROn.src h
 exact ⟨p,cap,raw,hv,h1,h3,⟨hm.1,fun i hi hi'=>fld_on.2 (fld_on.1 (hm.2 i hi hi'))⟩,hc⟩
theorem docE:Elem docC Try.prog 47 65 40:=⟨Try.underlying47,by
 have h:(Try.prog.info? 65).map (fun i=>(i.zero,i.size,i.bytes))=some (some (.agg #[.int .i64 0,.int .i64 0,.slice none 0 0]),3,40):=by kernel_rfl
 obtain ⟨i,h1,h2,h3,h4⟩:=info_parts h
 exact ⟨i,_,h1,h2,h3,h4,rfl⟩⟩
theorem doc_at {S:Nat→Prop} {w:World} {p:Option Addr} {n cap:Nat} {ds:List Doc} (h:ROn docC S w (.slice p n cap) ds) {k:Nat} (hk:k<ds.length) :
  ∃ b off v,p=some ⟨b,off,none⟩∧b<w.heap.size∧S b∧w.cell? ⟨b,off+k*3,none⟩=some (.int .i64 ds[k].1)∧w.cell? ⟨b,off+k*3+1,none⟩=some (.int .i64 ds[k].2.1)∧w.cell? ⟨b,off+k*3+2,none⟩=some v∧ROn fldC S w v ds[k].2.2:=by
 obtain ⟨b,off,vs,hp,hlt,hS,hon,hc⟩:=h.at_ hk
 rw [doc_on] at hon
 obtain ⟨v,rfl,hr⟩:=hon
 exact ⟨b,off,v,hp,hlt,hS,hc 0 _ rfl,hc 1 _ rfl,hc 2 _ rfl,hr⟩
end Go.Proofs.Ytdfbkhpkffpckaa.EV
