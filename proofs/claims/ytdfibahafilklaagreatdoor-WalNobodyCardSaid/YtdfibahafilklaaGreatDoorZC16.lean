import Derived.Test.YtdfibahafilklaaGreatDoorZC5
set_option maxRecDepth 100000
set_option maxHeartbeats 8000000
set_option linter.unusedVariables false
set_option linter.unusedSimpArgs false
namespace Go.Proofs.YtdfibahafilklaaGreatDoor.DK
open Go.RowKit MM
variable {XB : Nat → Prop}
def NX (XB:Nat→Prop) (v:Value):Prop:=∀ b o q n cap,v=.slice (some ⟨b,o,q⟩) n cap→n≠0→¬ XB b
structure BX (XB:Nat→Prop) (B:Nat) (w:World) (v:Value) (l:List UInt8):Prop where
 bin:BIn B w v l
 nx:NX XB v
theorem BX.below {B:Nat} {w w':World} {v:Value} {l:List UInt8} (h:BX XB B w v l) (hb:Below B w w'):BX XB B w' v l:=⟨h.bin.below hb,h.nx⟩
theorem BX.mono {B B':Nat} {w:World} {v:Value} {l:List UInt8} (h:BX XB B w v l) (hB:B≤B'):BX XB B' w v l:=⟨h.bin.mono hB,h.nx⟩
theorem BX.shape {B:Nat} {w:World} {v:Value} {l:List UInt8} (h:BX XB B w v l):∃ p cap,v=.slice p l.length cap∧l.length≤cap∧cap≤maxLen:=h.bin.shape
theorem BX.row {B:Nat} {w:World} {v:Value} {l:List UInt8} (h:BX XB B w v l) (hB:B≤w.heap.size):BRow w v l:=h.bin.row hB
theorem BX.take {B:Nat} {w:World} {p:Option Addr} {n cap:Nat} {l:List UInt8} (h:BX XB B w (.slice p n cap) l) (k:Nat) (hk:k≤n):BX XB B w (.slice p k cap) (l.take k) :=
 ⟨h.bin.take k hk,fun b o q m c e h0=>by
  simp only [Value.slice.injEq] at e
  exact h.nx b o q n c (by rw [e.1,e.2.2]) (by omega)⟩
theorem BX.kep {XB T:Nat→Prop} {B:Nat} {w w':World} {v:Value} {l:List UInt8} (h:BX XB B w v l) (hk:Kep T w w') (hB:B≤w.heap.size) (hT:∀ b,b<B→¬ XB b→T b):BX XB B w' v l:=by
 refine ⟨?_,h.nx⟩
 obtain ⟨p,cap,hv,h1,h2,h3,hc⟩:=h.bin
 refine ⟨p,cap,hv,h1,h2,h3,?_⟩
 rcases hc with hc | ⟨b,off,hp,hlt,hc⟩
 ·exact .inl hc
 ·by_cases h0:(Lib.byteCells l).length=0
  ·exact .inl (List.eq_nil_of_length_eq_zero h0)
  ·exact .inr ⟨b,off,hp,hlt,fun i u hi=>by rw [hk.cell (by omega) (hT b hlt (h.nx b off none _ cap (by rw [hv,hp]) h0))];exact hc i u hi⟩
theorem BX.weak {XB XC:Nat→Prop} {B:Nat} {w:World} {v:Value} {l:List UInt8} (h:BX XB B w v l) (hX:∀ b,b<B→XC b→XB b):BX XC B w v l:=by
 refine ⟨h.bin,fun b o q n cap e h0 hx => ?_⟩
 obtain ⟨p,cap',hv,h1,h2,h3,hc⟩:=h.bin
 rw [hv] at e
 simp only [Value.slice.injEq] at e
 obtain ⟨e1,e2,e3⟩:=e
 rcases hc with hc | ⟨b',off,hp,hlt,hc⟩
 ·rw [hc] at e2;simp at e2;omega
 ·rw [hp] at e1
  simp only [Option.some.injEq,Addr.mk.injEq] at e1
  obtain ⟨rfl,rfl,_⟩:=e1
  exact h.nx b' off none n cap (by rw [hv,hp,e2,e3]) h0 (hX b' hlt hx)
def strV (n:List UInt8):Value:=.string ⟨n.toArray⟩
def cells3 (p:FileD×Value):List Value:=[strV p.1.name,p.2,.int .i64 (p.1.sure:Int)]
def rowCells (ps:List (FileD×Value)):List Value:=ps.flatMap cells3
theorem rowCells_len:∀ ps:List (FileD×Value),(rowCells ps).length=ps.length*3
 | []=>rfl
 | p::ps=>by
   have:=rowCells_len ps
   unfold rowCells at this ⊢
   rw [List.flatMap_cons,List.length_append,this,List.length_cons]
   simp [cells3]
   omega
theorem rowCells_get:∀ (ps:List (FileD×Value)) (i:Nat) (p:FileD×Value),ps[i]? = some p→(rowCells ps)[i*3]? = some (strV p.1.name)∧(rowCells ps)[i*3+1]? = some p.2∧(rowCells ps)[i*3+2]? = some (.int .i64 (p.1.sure:Int))
 | [],i,p,h=>by simp at h
 | q::ps,0,p,h=>by
   simp only [List.getElem?_cons_zero,Option.some.injEq] at h
   subst h
   exact ⟨rfl,rfl,rfl⟩
 | q::ps,i+1,p,h=>by
   have ih:=rowCells_get ps i p (by simpa using h)
   have e:∀ k,(rowCells (q::ps))[(i+1)*3+k]? = (rowCells ps)[i*3+k]? := fun k=>by
    rw [show (i+1)*3+k=i*3+k+3 by omega]
    rfl
   exact ⟨by rw [← ih.1];exact e 0,by rw [← ih.2.1];exact e 1,by rw [← ih.2.2];exact e 2⟩
def FilesR (XB:Nat→Prop) (B:Nat) (w:World) (v:Value) (fs:List FileD):Prop :=
 ∃ (ps:List (FileD×Value)) (a:Option Addr) (cap:Nat),ps.map (·.1)=fs∧v=.slice a fs.length cap∧fs.length≤cap∧cap≤maxLen∧(∀ p∈ps,BX XB B w p.2 p.1.b) ∧
   (fs=[]∨∃ b off,a=some ⟨b,off,none⟩∧b<B∧∀ i u,(rowCells ps)[i]? = some u→w.cell? ⟨b,off+i,none⟩=some u)
theorem FilesR.below {B:Nat} {w w':World} {v:Value} {fs:List FileD} (h:FilesR XB B w v fs) (hb:Below B w w'):FilesR XB B w' v fs:=by
 obtain ⟨ps,a,cap,h1,h2,h3,h4,h5,h6⟩:=h
 refine ⟨ps,a,cap,h1,h2,h3,h4,fun p hp=>(h5 p hp).below hb,?_⟩
 rcases h6 with h6 | ⟨b,off,ha,hlt,hc⟩
 ·exact .inl h6
 ·exact .inr ⟨b,off,ha,hlt,fun i u hi=>by rw [hb.cell (p:=⟨b,off+i,none⟩) hlt];exact hc i u hi⟩
theorem FilesR.mono {B B':Nat} {w:World} {v:Value} {fs:List FileD} (h:FilesR XB B w v fs) (hB:B≤B'):FilesR XB B' w v fs:=by
 obtain ⟨ps,a,cap,h1,h2,h3,h4,h5,h6⟩:=h
 refine ⟨ps,a,cap,h1,h2,h3,h4,fun p hp=>(h5 p hp).mono hB,?_⟩
 rcases h6 with h6 | ⟨b,off,ha,hlt,hc⟩
 ·exact .inl h6
 ·exact .inr ⟨b,off,ha,by omega,hc⟩
theorem FilesR.shape {B:Nat} {w:World} {v:Value} {fs:List FileD} (h:FilesR XB B w v fs):∃ a cap,v=.slice a fs.length cap∧fs.length≤cap∧cap≤maxLen:=by
 obtain ⟨ps,a,cap,h1,h2,h3,h4,h5,h6⟩:=h
 exact ⟨a,cap,h2,h3,h4⟩
theorem FilesR.at_ {B:Nat} {w:World} {a:Option Addr} {n cap:Nat} {fs:List FileD} (h:FilesR XB B w (.slice a n cap) fs) {i:Nat} {f:FileD} (hi:fs[i]? = some f) :
  ∃ b off vb,a=some ⟨b,off,none⟩∧b<B∧BX XB B w vb f.b∧w.cell? ⟨b,off+i*3,none⟩=some (strV f.name)∧w.cell? ⟨b,off+i*3+1,none⟩=some vb∧w.cell? ⟨b,off+i*3+2,none⟩=some (.int .i64 (f.sure:Int)):=by
 obtain ⟨ps,a',cap',h1,h2,h3,h4,h5,h6⟩:=h
 simp only [Value.slice.injEq] at h2
 obtain ⟨rfl,_,_⟩:=h2
 rw [← h1,List.getElem?_map,Option.map_eq_some_iff] at hi
 obtain ⟨p,hp,rfl⟩:=hi
 obtain ⟨c0,c1,c2⟩:=rowCells_get ps i p hp
 rcases h6 with h6 | ⟨b,off,rfl,hlt,hc⟩
 ·rw [h6] at h1
  have:ps=[]:=List.map_eq_nil_iff.1 h1
  rw [this] at hp
  simp at hp
 ·exact ⟨b,off,p.2,rfl,hlt,h5 p (List.mem_of_getElem? hp),hc _ _ c0,hc _ _ c1,hc _ _ c2⟩
def FilesIn (XB:Nat→Prop) (B:Nat) (w:World) (v:Value) (fs:List FileD):Prop:=FilesR XB B w v fs∧NX XB v
theorem FilesIn.below {B:Nat} {w w':World} {v:Value} {fs:List FileD} (h:FilesIn XB B w v fs) (hb:Below B w w'):FilesIn XB B w' v fs:=⟨h.1.below hb,h.2⟩
theorem FilesIn.mono {B B':Nat} {w:World} {v:Value} {fs:List FileD} (h:FilesIn XB B w v fs) (hB:B≤B'):FilesIn XB B' w v fs:=⟨h.1.mono hB,h.2⟩
theorem FilesIn.shape {B:Nat} {w:World} {v:Value} {fs:List FileD} (h:FilesIn XB B w v fs):∃ a cap,v=.slice a fs.length cap∧fs.length≤cap∧cap≤maxLen:=h.1.shape
theorem FilesIn.at_ {B:Nat} {w:World} {a:Option Addr} {n cap:Nat} {fs:List FileD} (h:FilesIn XB B w (.slice a n cap) fs) {i:Nat} {f:FileD} (hi:fs[i]? = some f) :
  ∃ b off vb,a=some ⟨b,off,none⟩∧b<B∧BX XB B w vb f.b∧w.cell? ⟨b,off+i*3,none⟩=some (strV f.name)∧w.cell? ⟨b,off+i*3+1,none⟩=some vb∧w.cell? ⟨b,off+i*3+2,none⟩=some (.int .i64 (f.sure:Int)):=h.1.at_ hi
theorem FilesIn.kep {XB T:Nat→Prop} {B:Nat} {w w':World} {v:Value} {fs:List FileD} (h:FilesIn XB B w v fs) (hk:Kep T w w') (hB:B≤w.heap.size) (hT:∀ b,b<B→¬ XB b→T b):FilesIn XB B w' v fs:=by
 refine ⟨?_,h.2⟩
 obtain ⟨ps,a,cap,h1,h2,h3,h4,h5,h6⟩:=h.1
 refine ⟨ps,a,cap,h1,h2,h3,h4,fun p hp=>(h5 p hp).kep hk hB hT,?_⟩
 rcases h6 with h6 | ⟨b,off,ha,hlt,hc⟩
 ·exact .inl h6
 ·by_cases h0:fs.length=0
  ·exact .inl (List.eq_nil_of_length_eq_zero h0)
  ·exact .inr ⟨b,off,ha,hlt,fun i u hi=>by rw [hk.cell (by omega) (hT b hlt (h.2 b off none _ cap (by rw [h2,ha]) h0))];exact hc i u hi⟩
theorem FilesIn.weak {XB XC:Nat→Prop} {B:Nat} {w:World} {v:Value} {fs:List FileD} (h:FilesIn XB B w v fs) (hX:∀ b,b<B→XC b→XB b):FilesIn XC B w v fs:=by
 obtain ⟨ps,a,cap,h1,h2,h3,h4,h5,h6⟩:=h.1
 refine ⟨⟨ps,a,cap,h1,h2,h3,h4,fun p hp=>(h5 p hp).weak hX,h6⟩,fun b o q n cap' e h0 hx => ?_⟩
 rw [h2] at e
 simp only [Value.slice.injEq] at e
 obtain ⟨e1,e2,e3⟩:=e
 rcases h6 with h6 | ⟨b',off,ha,hlt,hc⟩
 ·rw [h6] at e2;simp at e2;omega
 ·rw [ha] at e1
  simp only [Option.some.injEq,Addr.mk.injEq] at e1
  obtain ⟨rfl,rfl,_⟩:=e1
  exact h.2 b' off none n cap' (by rw [h2,ha,e2,e3]) h0 (hX b' hlt hx)
def OwnF (XB:Nat→Prop) (A B:Nat) (w:World) (v:Value) (fs:List FileD):Prop:=∃ ps:List (FileD×Value),ps.map (·.1)=fs∧w.ownsRow B 134 3 v fs.length (rowCells ps)∧∀ p∈ps,BX XB A w p.2 p.1.b
theorem OwnF.keep {A B:Nat} {w w':World} {v:Value} {fs:List FileD} (h:OwnF XB A B w v fs) (hb:Below w.heap.size w w') (hA:A≤w.heap.size):OwnF XB A B w' v fs:=by
 obtain ⟨ps,h1,h2,h3⟩:=h
 exact ⟨ps,h1,own_keep (B:=0) h2 hb,fun p hp=>(h3 p hp).below (hb.mono hA)⟩
theorem OwnF.shape {A B:Nat} {w:World} {v:Value} {fs:List FileD} (h:OwnF XB A B w v fs):∃ a cap,v=.slice a fs.length cap:=by
 obtain ⟨ps,h1,h2,h3⟩:=h
 rcases h2.2 with ⟨rfl,h0⟩ | ⟨g,cap,cur,rfl,_⟩
 ·exact ⟨none,0,by rw [h0]⟩
 ·exact ⟨_,cap,rfl⟩
theorem OwnF.at_ {A B:Nat} {w:World} {a:Option Addr} {n cap:Nat} {fs:List FileD} (h:OwnF XB A B w (.slice a n cap) fs) {i:Nat} {f:FileD} (hi:fs[i]? = some f) :
  ∃ b vb,a=some ⟨b,0,none⟩∧B≤b∧BX XB A w vb f.b∧w.cell? ⟨b,0+i*3,none⟩=some (strV f.name)∧w.cell? ⟨b,0+i*3+1,none⟩=some vb∧w.cell? ⟨b,0+i*3+2,none⟩=some (.int .i64 (f.sure:Int)):=by
 obtain ⟨ps,h1,h2,h3⟩:=h
 have hl:ps.length=fs.length:=by rw [← h1,List.length_map]
 have hlt:=(List.getElem?_eq_some_iff.1 hi).1
 rw [← h1,List.getElem?_map,Option.map_eq_some_iff] at hi
 obtain ⟨p,hp,rfl⟩:=hi
 obtain ⟨c0,c1,c2⟩:=rowCells_get ps i p hp
 rcases h2.2 with ⟨_,h0⟩ | ⟨g,cap',cur,hv,hg,hh,hnc,hm,hs,ht⟩
 ·omega
 ·simp only [Value.slice.injEq] at hv
  obtain ⟨rfl,_,_⟩:=hv
  have hc:∀ k u,(rowCells ps)[k]? = some u→w.cell? ⟨g,0+k,none⟩=some u:=fun k u hk=>by
   rw [cell_of_row w g (0+k) _ _ _ hh,Nat.zero_add]
   have hlt:=(List.getElem?_eq_some_iff.1 hk).1
   have:=congrArg (fun l=>l[k]?) ht
   have hlt2:k<fs.length*3:=by rw [rowCells_len,hl] at hlt;exact hlt
   simp only [List.getElem?_take,hlt2,if_true,hk] at this
   simpa using this
  exact ⟨g,p.2,rfl,hg,h3 p (List.mem_of_getElem? hp),hc _ _ c0,hc _ _ c1,hc _ _ c2⟩
def diskV (L:Value) (d:DiskD):Value:=.agg #[L,.int .i64 d.quota,.int .i64 d.armed,.bool d.stopped]
def RDisk (XB:Nat→Prop) (B:Nat) (w:World) (v:Value) (d:DiskD):Prop:=∃ L,v=diskV L d∧FilesIn XB B w L d.L
theorem RDisk.below {B:Nat} {w w':World} {v:Value} {d:DiskD} (h:RDisk XB B w v d) (hb:Below B w w'):RDisk XB B w' v d:=by
 obtain ⟨L,h1,h2⟩:=h
 exact ⟨L,h1,h2.below hb⟩
theorem RDisk.mono {B B':Nat} {w:World} {v:Value} {d:DiskD} (h:RDisk XB B w v d) (hB:B≤B'):RDisk XB B' w v d:=by
 obtain ⟨L,h1,h2⟩:=h
 exact ⟨L,h1,h2.mono hB⟩
end Go.Proofs.YtdfibahafilklaaGreatDoor.DK
namespace Go.Proofs.YtdfibahafilklaaGreatDoor.DK
open Go.RowKit MM
variable {XB : Nat → Prop}
theorem str_size {s:ByteArray} {l:List UInt8} (hl:s.data.toList=l):s.size=l.length:=by rw [Lib.size_eq,hl]
def okCode (c:Nat):Bool:=(decide (97≤c)&&decide (c≤122))||(decide (48≤c)&&decide (c≤57))||decide (c=45)||decide (c=46)
theorem eq_code (c k:UInt8):(c == k)=decide (c.toNat=k.toNat):=by
 by_cases h:c=k
 ·subst h;rw [beq_self_eq_true];exact (decide_eq_true rfl).symm
 ·have:¬ c.toNat=k.toNat:=fun q=>h (UInt8.toNat_inj.1 q)
  rw [beq_eq_false_iff_ne.2 h,decide_eq_false this]
theorem charOk_code (c:UInt8):charOk c=okCode c.toNat:=by
 unfold charOk okCode
 rw [eq_code c 45,eq_code c 46]
 rfl
theorem okCode_int (c:Nat):okCode c=(((decide ((c:Int)≥97)&&decide ((c:Int)≤122))||(decide ((c:Int)≥48)&&decide ((c:Int)≤57)))||((c:Int) == 45)||((c:Int) == 46)):=by
 have e:∀ k:Nat,((c:Int) == (k:Int))=decide (c=k):=fun k=>by
  by_cases h:c=k
  ·subst h;rw [beq_self_eq_true];exact (decide_eq_true rfl).symm
  ·rw [beq_eq_false_iff_ne.2 (by omega),decide_eq_false h]
 have e1:((c:Int) == 45)=decide (c=45):=e 45
 have e2:((c:Int) == 46)=decide (c=46):=e 46
 unfold okCode
 rw [e1,e2,decide_eq_decide.2 (show 97≤c↔(c:Int)≥97 by omega),decide_eq_decide.2 (show c≤122↔(c:Int)≤122 by omega),decide_eq_decide.2 (show 48≤c↔(c:Int)≥48 by omega),decide_eq_decide.2 (show c≤57↔(c:Int)≤57 by omega)]
def BoxAt (w:World) (g:Nat) (L:Value) (d:DiskD):Prop:=w.heap[g]? = some (.cells #[L,.int .i64 d.quota,.int .i64 d.armed,.bool d.stopped] 45 (0,0))
theorem BoxAt.armed {w:World} {g:Nat} {L:Value} {d:DiskD} (h:BoxAt w g L d):w.cell? ⟨g,2,none⟩=some (.int .i64 d.armed):=by rw [cell_of_row w g 2 _ _ _ h];rfl
theorem BoxAt.stopped {w:World} {g:Nat} {L:Value} {d:DiskD} (h:BoxAt w g L d):w.cell? ⟨g,3,none⟩=some (.bool d.stopped):=by rw [cell_of_row w g 3 _ _ _ h];rfl
theorem BoxAt.free {w:World} {g:Nat} {L:Value} {d:DiskD} (h:BoxAt w g L d) (k:Nat):w.frozen? ⟨g,k,none⟩=false:=frozen_of_row w g k _ _ h
theorem BoxAt.below {w w':World} {g B:Nat} {L:Value} {d:DiskD} (h:BoxAt w g L d) (hb:Below B w w') (hg:g<B):BoxAt w' g L d:=(hb.block g hg).trans h
end Go.Proofs.YtdfibahafilklaaGreatDoor.DK
namespace Go.Proofs.YtdfibahafilklaaGreatDoor.MM
open Go Go.RowKit
def Two (w:World) (g:Nat) (t:TypeId) (a b:Value):Prop:=w.heap[g]? = some (.cells #[a,b] t (0,0))
theorem Two.lt {w:World} {g:Nat} {t:TypeId} {a b:Value} (h:Two w g t a b):g<w.heap.size:=(Array.getElem?_eq_some_iff.1 h).1
theorem Two.c0 {w:World} {g:Nat} {t:TypeId} {a b:Value} (h:Two w g t a b):w.cell? ⟨g,0,none⟩=some a:=by rw [cell_of_row w g 0 _ _ _ h];rfl
theorem Two.c1 {w:World} {g:Nat} {t:TypeId} {a b:Value} (h:Two w g t a b):w.cell? ⟨g,1,none⟩=some b:=by rw [cell_of_row w g 1 _ _ _ h];rfl
theorem Two.f0 {w:World} {g:Nat} {t:TypeId} {a b:Value} (h:Two w g t a b):w.frozen? ⟨g,0,none⟩=false:=frozen_of_row w g 0 _ _ h
theorem Two.f1 {w:World} {g:Nat} {t:TypeId} {a b:Value} (h:Two w g t a b):w.frozen? ⟨g,1,none⟩=false:=frozen_of_row w g 1 _ _ h
theorem Two.s0 {w:World} {g:Nat} {t:TypeId} {a b:Value} (h:Two w g t a b) (x:Value):Two (w.setCell ⟨g,0,none⟩ x) g t x b:=heap_setCell_same w g 0 _ _ x h
theorem Two.s1 {w:World} {g:Nat} {t:TypeId} {a b:Value} (h:Two w g t a b) (x:Value):Two (w.setCell ⟨g,1,none⟩ x) g t a x:=heap_setCell_same w g 1 _ _ x h
theorem Two.s01 {w:World} {g:Nat} {t:TypeId} {a b:Value} (h:Two w g t a b) (x y:Value):Two ((w.setCell ⟨g,0,none⟩ x).setCell ⟨g,1,none⟩ y) g t x y:=(h.s0 x).s1 y
theorem Two.keep {S:Nat→Prop} {w w':World} {g:Nat} {t:TypeId} {a b:Value} (h:Two w g t a b) (hk:Kep S w w') (hS:S g):Two w' g t a b:=(hk.block g h.lt hS).trans h
theorem Two.below {B:Nat} {w w':World} {g:Nat} {t:TypeId} {a b:Value} (h:Two w g t a b) (hb:Below B w w') (hg:g<B):Two w' g t a b:=(hb.block g hg).trans h
theorem two_new (w:World) (t:TypeId) (a b:Value):Two (w.alloc (.cells #[a,b] t)) w.heap.size t a b:=heap_alloc_new _ _
theorem Two.all {w:World} {g:Nat} {t:TypeId} {a b:Value} (h:Two w g t a b) (x:Value) :
  w.cell? ⟨g,0,none⟩=some a∧w.cell? ⟨g,1,none⟩=some b∧w.frozen? ⟨g,0,none⟩=false∧w.frozen? ⟨g,1,none⟩=false∧(w.setCell ⟨g,0,none⟩ x).cell? ⟨g,1,none⟩=some b∧(w.setCell ⟨g,0,none⟩ x).frozen? ⟨g,1,none⟩=false :=
 ⟨h.c0,h.c1,h.f0,h.f1,(h.s0 x).c1,(h.s0 x).f1⟩
theorem kep_set0 {w:World} {g i:Nat} (x:Value):Kep (fun b=>b≠g) w (w.setCell ⟨g,i,none⟩ x):=kep_set (fun h=>h rfl) x
theorem kep_set01 {w:World} {g:Nat} (x y:Value):Kep (fun b=>b≠g) w ((w.setCell ⟨g,0,none⟩ x).setCell ⟨g,1,none⟩ y):=(kep_set0 x).trans (kep_set0 y)
section
variable {P : Program} {fn : Func} {t : TypeId} {d : TypeDesc}
theorem results_box1 {p:Tmp} (h:fn.results=#[.cell p t]) (hu:P.underlying t=some d) (hd:(match d with | .struct _ | .array _ _=>true | _=>false)=true) (hi:(P.info? t).map (·.size)=some 2) (tmps:Array Value) (w:World) (g:Nat) (a b:Value)
  (hp:tmps.getD p undef=.pointer (some ⟨g,0,none⟩)) (hg:Two w g t a b):(results fn tmps).run P w=.ok (.agg #[a,b]) w:=by
 have hp':tmps[p]?.getD undef=.pointer (some ⟨g,0,none⟩):=by simpa using hp
 have hl:=run_loadVar_row (P:=P) w g t t _ (0,0) d hg hu hd hi
 simp [results,h,hp',asAddr,hl]
theorem results_box2 {p u:Tmp} (h:fn.results=#[.cell p t,.tmp u]) (hu:P.underlying t=some d) (hd:(match d with | .struct _ | .array _ _=>true | _=>false)=true) (hi:(P.info? t).map (·.size)=some 2) (tmps:Array Value) (w:World) (g:Nat) (a b:Value)
  (hp:tmps.getD p undef=.pointer (some ⟨g,0,none⟩)) (hg:Two w g t a b):(results fn tmps).run P w=.ok (.tuple #[.agg #[a,b],tmps.getD u undef]) w:=by
 have hp':tmps[p]?.getD undef=.pointer (some ⟨g,0,none⟩):=by simpa using hp
 have hl:=run_loadVar_row (P:=P) w g t t _ (0,0) d hg hu hd hi
 simp [results,h,hp',asAddr,hl]
theorem results_box3 {p u v:Tmp} (h:fn.results=#[.cell p t,.tmp u,.tmp v]) (hu:P.underlying t=some d) (hd:(match d with | .struct _ | .array _ _=>true | _=>false)=true) (hi:(P.info? t).map (·.size)=some 2) (tmps:Array Value) (w:World) (g:Nat) (a b:Value)
  (hp:tmps.getD p undef=.pointer (some ⟨g,0,none⟩)) (hg:Two w g t a b):(results fn tmps).run P w=.ok (.tuple #[.agg #[a,b],tmps.getD u undef,tmps.getD v undef]) w:=by
 have hp':tmps[p]?.getD undef=.pointer (some ⟨g,0,none⟩):=by simpa using hp
 have hl:=run_loadVar_row (P:=P) w g t t _ (0,0) d hg hu hd hi
 simp [results,h,hp',asAddr,hl]
end
end Go.Proofs.YtdfibahafilklaaGreatDoor.MM
