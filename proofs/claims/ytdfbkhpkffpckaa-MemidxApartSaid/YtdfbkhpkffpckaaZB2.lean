import Derived.Test.YtdfbkhpkffpckaaZB1
set_option maxRecDepth 100000
set_option maxHeartbeats 8000000
set_option linter.unusedVariables false
set_option linter.unusedSimpArgs false
namespace Go.Proofs.Ytdfbkhpkffpckaa.MM
open Go.RowKit
theorem OwnB.shape {B:Nat} {w:World} {v:Value} {l:List UInt8} (h:OwnB B w v l) (hl:l.length≠0):∃ g cap,v=.slice (some ⟨g,0,none⟩) l.length cap∧B≤g∧l.length≤cap∧cap≤maxLen:=by
 rcases h.2 with ⟨_,h0⟩ | ⟨g,cap,cur,hv,hb,_,hn,hm,_⟩
 ·exact absurd h0 hl
 ·exact ⟨g,cap,hv,hb,hn,hm⟩
theorem OwnB.cell {B:Nat} {w:World} {g n cap j:Nat} {l:List UInt8} {c:UInt8} (h:OwnB B w (.slice (some ⟨g,0,none⟩) n cap) l) (hj:l[j]? = some c):w.cell? ⟨g,j,none⟩=some (.int .u8 (c.toNat:Int)):=by
 obtain ⟨hlt,he⟩:=List.getElem?_eq_some_iff.1 hj
 obtain ⟨b,off,hp,_,hc⟩:=h.brow.at_ hlt
 rcases h.2 with ⟨hv,_⟩ | ⟨g',cap',cur,hv,hb,hh,hn,hm,hs,ht⟩
 ·cases hv
 ·simp only [Value.slice.injEq,Option.some.injEq,Addr.mk.injEq] at hv hp
  obtain ⟨⟨rfl,_⟩,_⟩:=hv
  obtain ⟨rfl,rfl,_⟩:=hp
  rw [he,Nat.zero_add] at hc
  exact hc
theorem OwnB.set {B:Nat} {w:World} {g n cap j:Nat} {l:List UInt8} (h:OwnB B w (.slice (some ⟨g,0,none⟩) n cap) l) (c:UInt8) :
  OwnB B (w.setCell ⟨g,j,none⟩ (.int .u8 (c.toNat:Int))) (.slice (some ⟨g,0,none⟩) n cap) (l.set j c):=by
 refine ⟨by rw [byteCells_len];omega,?_⟩
 rcases h.2 with ⟨hv,_⟩ | ⟨g',cap',cur,hv,hb,hh,hn,hm,hs,ht⟩
 ·cases hv
 ·have hv':=hv
  simp only [Value.slice.injEq,Option.some.injEq,Addr.mk.injEq] at hv
  obtain ⟨⟨rfl,_⟩,hnn,rfl⟩:=hv
  refine .inr ⟨g,cap,cur.setIfInBounds j (.int .u8 (c.toNat:Int)),by rw [List.length_set,hnn],hb,heap_setCell_same w g j cur _ _ hh,by rw [List.length_set];exact hn,hm,by rw [Array.size_setIfInBounds];exact hs,?_⟩
  rw [List.length_set,Array.toList_setIfInBounds,List.take_set,ht]
  simp [Lib.byteCells,List.map_set]
end Go.Proofs.Ytdfbkhpkffpckaa.MM
