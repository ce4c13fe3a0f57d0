import Derived.Test.YtdfbkhpkffpckaaZA2
set_option maxRecDepth 100000
set_option maxHeartbeats 8000000
set_option linter.unusedVariables false
set_option linter.unusedSimpArgs false
namespace Go.Proofs.Ytdfbkhpkffpckaa.MM
open Go.RowKit
structure Kep (S:Nat→Prop) (w w':World):Prop where
 os:w'.os=w.os
 tape:w'.tape=w.tape
 output:w'.output=w.output
 size:w.heap.size≤w'.heap.size
 block:∀ k,k<w.heap.size→S k→w'.heap[k]? = w.heap[k]?
theorem Kep.refl (S:Nat→Prop) (w:World):Kep S w w:=⟨rfl,rfl,rfl,Nat.le_refl _,fun _ _ _=>rfl⟩
theorem Kep.trans {S:Nat→Prop} {a b c:World} (h:Kep S a b) (k:Kep S b c):Kep S a c :=
 ⟨k.os.trans h.os,k.tape.trans h.tape,k.output.trans h.output,Nat.le_trans h.size k.size,fun i hi hs=>(k.block i (Nat.lt_of_lt_of_le hi h.size) hs).trans (h.block i hi hs)⟩
theorem Kep.mono {S T:Nat→Prop} {a b:World} (h:Kep S a b) (hT:∀ k,T k→S k):Kep T a b:=⟨h.os,h.tape,h.output,h.size,fun k hk ht=>h.block k hk (hT k ht)⟩
theorem Kep.mono' {S T:Nat→Prop} {a b:World} (h:Kep S a b) (hT:∀ k,k<a.heap.size→T k→S k):Kep T a b:=⟨h.os,h.tape,h.output,h.size,fun k hk ht=>h.block k hk (hT k hk ht)⟩
theorem Kep.drew {S:Nat→Prop} {a b:World} (h:Kep S a b):Kep S a b.drew:=⟨h.os,h.tape,h.output,h.size,h.block⟩
theorem kep_below {w w':World} (S:Nat→Prop) (h:Below w.heap.size w w'):Kep S w w':=⟨h.os,h.tape,h.output,h.size,fun k hk _=>h.block k hk⟩
theorem kep_alloc (S:Nat→Prop) (w:World) (o:Obj):Kep S w (w.alloc o):=kep_below S ((Below.refl _ _).alloc (Nat.le_refl _) o)
theorem kep_set {S:Nat→Prop} {w:World} {g i:Nat} (hg:¬ S g) (u:Value):Kep S w (w.setCell ⟨g,i,none⟩ u) :=
 ⟨rfl,rfl,rfl,by simp,fun k _ hs=>Below.heap_setCell _ _ _ _ (fun e=>hg (by rw [← show k=g from e];exact hs))⟩
theorem kep_grown {S:Nat→Prop} {w w':World} {row:Option Nat} (h:w.grownBy w' row) (hr:∀ k,row=some k→¬ S k):Kep S w w' :=
 ⟨h.os,h.tape,h.output,h.size,fun k hk hs=>h.block k hk (fun e=>hr k e.symm hs)⟩
theorem Kep.below {S:Nat→Prop} {w w':World} {B:Nat} (h:Kep S w w') (hB:B≤w.heap.size) (hS:∀ k,k<B→S k):Below B w w' :=
 ⟨h.os,h.tape,h.output,h.size,fun k hk=>h.block k (Nat.lt_of_lt_of_le hk hB) (hS k hk)⟩
theorem Kep.andThen {S T:Nat→Prop} {a b c:World} (h:Kep S a b) (k:Kep T b c) (hT:∀ i,i<a.heap.size→S i→T i):Kep S a c :=
 ⟨k.os.trans h.os,k.tape.trans h.tape,k.output.trans h.output,Nat.le_trans h.size k.size,fun i hi hs=>(k.block i (Nat.lt_of_lt_of_le hi h.size) (hT i hi hs)).trans (h.block i hi hs)⟩
theorem kep_draw (S:Nat→Prop) (w:World):Kep S w w.drew:=(Kep.refl S w).drew
theorem Kep.cell {S:Nat→Prop} {w w':World} (h:Kep S w w') {b:Nat} (hb:b<w.heap.size) (hS:S b) (i:Nat):w'.cell? ⟨b,i,none⟩=w.cell? ⟨b,i,none⟩:=World.cell?_of_block (a:=⟨b,i,none⟩) (h.block b hb hS)
end Go.Proofs.Ytdfbkhpkffpckaa.MM
namespace Go.Proofs.Ytdfbkhpkffpckaa.MM
open Go.RowKit
theorem infoInt:(Try.prog.info? 3).map (fun i=>(i.zero,i.size,i.bytes))=some (some (.int .i64 0),1,8):=by kernel_rfl
def IRow (w:World) (v:Value) (zs:List Int):Prop:=Row w v (zs.map (Value.int .i64))
def OwnI (B:Nat) (w:World) (v:Value) (zs:List Int):Prop:=w.ownsRow B 3 1 v zs.length (zs.map (Value.int .i64))
theorem OwnI.irow {B:Nat} {w:World} {v:Value} {zs:List Int} (h:OwnI B w v zs):IRow w v zs:=Row.of_own h
theorem OwnI.keep {w w':World} {B:Nat} {v:Value} {zs:List Int} (h:OwnI B w v zs) (hb:Below w.heap.size w w'):OwnI B w' v zs:=own_keep (B:=0) h hb
theorem IRow.below {w w':World} {v:Value} {zs:List Int} (h:IRow w v zs) (hb:Below w.heap.size w w'):IRow w' v zs:=Row.below (B:=0) h hb
theorem IRow.shape {w:World} {v:Value} {zs:List Int} (h:IRow w v zs):∃ p cap,v=.slice p zs.length cap∧zs.length≤cap∧cap≤maxLen:=by
 obtain ⟨p,cap,hv,h1,h2,_,_⟩:=h
 rw [List.length_map] at hv h1
 exact ⟨p,cap,hv,h1,h2⟩
theorem IRow.at_ {w:World} {p:Option Addr} {n cap:Nat} {zs:List Int} (h:IRow w (.slice p n cap) zs) {k:Nat} (hk:k<zs.length) :
  ∃ b off,p=some ⟨b,off,none⟩∧b<w.heap.size∧w.cell? ⟨b,off+k,none⟩=some (.int .i64 (zs.getD k 0)):=by
 obtain ⟨p',cap',hv,_,_,_,h⟩:=h
 simp only [Value.slice.injEq] at hv
 obtain ⟨rfl,_,_⟩:=hv
 rcases h with h | ⟨b,off,hp,hlt,hc⟩
 ·have:zs=[]:=List.map_eq_nil_iff.1 h
  subst this
  simp at hk
 ·exact ⟨b,off,hp,hlt,hc k _ (by simp [List.getD,hk])⟩
theorem IRow.take {w:World} {p:Option Addr} {n cap:Nat} {zs:List Int} (h:IRow w (.slice p n cap) zs) (k:Nat) (hk:k≤n):IRow w (.slice p k cap) (zs.take k):=by
 have:=RowIn.take h k hk
 rw [← List.map_take] at this
 exact this
theorem wpList_append_int {w:World} {ops:Array Oper} {rest:List Oper} {o:Oper} {a:Act} {Q:Exit→Act→World→Prop} (hgd:o.guard=none) (s x:Operand)
  (ho:o.op=.call { callee:=.builtin .append,args:=#[s,x],argTypes:=#[27,27] }) (B:Nat) (v:Value) (zs:List Int) (w0:World) (z:Int) (hw:w=w0.alloc (.cells #[.int .i64 z] 3)) (hs:a.eval s=v) (hown:OwnI B w0 v zs)
  (hx:a.eval x=.slice (some ⟨w0.heap.size,0,none⟩) 1 1) (hlen:zs.length≤4398046511104) (hbase:B≤w0.heap.size)
  (h:∀ v' w',OwnI B w' v' (zs++[z])→Below B w0 w'→wpList Try.prog ops Q rest (a.put o.dst v') w'):wpList Try.prog ops Q (o::rest) a w:=by
 subst hw
 obtain ⟨i0,hi,hz0,hz1,hz2⟩:=info_parts infoInt
 have hlo:∀ k,v.ownBlock=some k→B≤k:=fun k hk=>(World.ownsRow.lt hown k hk).1
 refine wpList_append_own _ hgd s x 27 ho B 3 i0 (.int .i64 0) 1 8 Try.underlying27 hi hz0 hz1 hz2 rfl (by decide) v zs.length _ hs (World.ownsRow.alloc hown _) ⟨w0.heap.size,0,none⟩ 1 1 [.int .i64 z] hx rfl (cell_new1 _ _ _) (int_one _ _)
  (by unfold maxLen;omega) (by omega) (by simp;omega) (fun v' w' h1 hg _=>h v' w' ?_ (below_app (Below.refl B w0) hbase hlo hg))
 unfold OwnI
 rw [List.length_append,List.map_append]
 exact h1
end Go.Proofs.Ytdfbkhpkffpckaa.MM
