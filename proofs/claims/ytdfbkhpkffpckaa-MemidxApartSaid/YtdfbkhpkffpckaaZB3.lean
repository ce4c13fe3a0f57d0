import Derived.Test.YtdfbkhpkffpckaaZB2
set_option maxRecDepth 100000
set_option maxHeartbeats 8000000
set_option linter.unusedVariables false
set_option linter.unusedSimpArgs false
namespace Go.Proofs.Ytdfbkhpkffpckaa.MM
open Go.RowKit
structure Kep (S:Nat→Prop) (w w':World):Prop where
 os:w'.os=w.os
 tape:w'.tape=w.tape
 output:w'.output=w.output
 size:w.heap.size≤w'.heap.size
 block:∀ k,k<w.heap.size→S k→w'.heap[k]? = w.heap[k]?
theorem Kep.refl (S:Nat→Prop) (w:World):Kep S w w:=⟨rfl,rfl,rfl,Nat.le_refl _,fun _ _ _=>rfl⟩
theorem Kep.trans {S:Nat→Prop} {a b c:World} (h:Kep S a b) (k:Kep S b c):Kep S a c :=
 ⟨k.os.trans h.os,k.tape.trans h.tape,k.output.trans h.output,Nat.le_trans h.size k.size,fun i hi hs=>(k.block i (Nat.lt_of_lt_of_le hi h.size) hs).trans (h.block i hi hs)⟩
theorem Kep.mono {S T:Nat→Prop} {a b:World} (h:Kep S a b) (hT:∀ k,T k→S k):Kep T a b:=⟨h.os,h.tape,h.output,h.size,fun k hk ht=>h.block k hk (hT k ht)⟩
theorem Kep.mono' {S T:Nat→Prop} {a b:World} (h:Kep S a b) (hT:∀ k,k<a.heap.size→T k→S k):Kep T a b:=⟨h.os,h.tape,h.output,h.size,fun k hk ht=>h.block k hk (hT k hk ht)⟩
theorem Kep.drew {S:Nat→Prop} {a b:World} (h:Kep S a b):Kep S a b.drew:=⟨h.os,h.tape,h.output,h.size,h.block⟩
theorem kep_below {w w':World} (S:Nat→Prop) (h:Below w.heap.size w w'):Kep S w w':=⟨h.os,h.tape,h.output,h.size,fun k hk _=>h.block k hk⟩
theorem kep_alloc (S:Nat→Prop) (w:World) (o:Obj):Kep S w (w.alloc o):=kep_below S ((Below.refl _ _).alloc (Nat.le_refl _) o)
theorem kep_set {S:Nat→Prop} {w:World} {g i:Nat} (hg:¬ S g) (u:Value):Kep S w (w.setCell ⟨g,i,none⟩ u) :=
 ⟨rfl,rfl,rfl,by simp,fun k _ hs=>Below.heap_setCell _ _ _ _ (fun e=>hg (by rw [← show k=g from e];exact hs))⟩
theorem kep_grown {S:Nat→Prop} {w w':World} {row:Option Nat} (h:w.grownBy w' row) (hr:∀ k,row=some k→¬ S k):Kep S w w' :=
 ⟨h.os,h.tape,h.output,h.size,fun k hk hs=>h.block k hk (fun e=>hr k e.symm hs)⟩
theorem Kep.below {S:Nat→Prop} {w w':World} {B:Nat} (h:Kep S w w') (hB:B≤w.heap.size) (hS:∀ k,k<B→S k):Below B w w' :=
 ⟨h.os,h.tape,h.output,h.size,fun k hk=>h.block k (Nat.lt_of_lt_of_le hk hB) (hS k hk)⟩
theorem Kep.andThen {S T:Nat→Prop} {a b c:World} (h:Kep S a b) (k:Kep T b c) (hT:∀ i,i<a.heap.size→S i→T i):Kep S a c :=
 ⟨k.os.trans h.os,k.tape.trans h.tape,k.output.trans h.output,Nat.le_trans h.size k.size,fun i hi hs=>(k.block i (Nat.lt_of_lt_of_le hi h.size) (hT i hi hs)).trans (h.block i hi hs)⟩
theorem kep_draw (S:Nat→Prop) (w:World):Kep S w w.drew:=(Kep.refl S w).drew
theorem Kep.cell {S:Nat→Prop} {w w':World} (h:Kep S w w') {b:Nat} (hb:b<w.heap.size) (hS:S b) (i:Nat):w'.cell? ⟨b,i,none⟩=w.cell? ⟨b,i,none⟩:=World.cell?_of_block (a:=⟨b,i,none⟩) (h.block b hb hS)
end Go.Proofs.Ytdfbkhpkffpckaa.MM
