import Derived.Test.YtidhgicajlaafaaGreatProg
import Derived.WalkKit
import Derived.Lib.Hide
import Derived.Laws.AppendOwnNone
import Derived.Lib.BufferRead
import Derived.BigQuiet
set_option maxRecDepth 100000
set_option maxHeartbeats 8000000
set_option linter.unusedVariables false
set_option linter.unusedSimpArgs false
namespace Go.Proofs.YtidhgicajlaafaaGreat.MM
open Go.RowKit
theorem infoByte:(Tryz.prog.info? 5).map (fun i=>(i.zero,i.size,i.bytes))=some (some (.int .u8 0),1,1):=by kernel_rfl
theorem grow {a b c:World} (h:Below a.heap.size a b) (k:Below b.heap.size b c):Below a.heap.size a c:=h.trans (k.mono h.size)
theorem add_at (b off j:Nat):(⟨b,off,none⟩:Addr).add j=⟨b,off+j,none⟩:=by unfold Addr.add;split<;>simp_all
theorem below_drewN {B:Nat} {a w:World} (h:Below B a w) (n:Nat):Below B a (w.drewN n):=⟨h.os,h.tape,h.output,h.size,h.block⟩
def RowIn (B:Nat) (w:World) (v:Value) (xs:List Value):Prop :=
 ∃ (p:Option Addr) (cap:Nat),v=.slice p xs.length cap∧xs.length≤cap∧cap≤maxLen∧(p=none→cap=0) ∧
   (xs=[]∨∃ b off,p=some ⟨b,off,none⟩∧b<B∧∀ i u,xs[i]? = some u→w.cell? ⟨b,off+i,none⟩=some u)
theorem RowIn.below {B:Nat} {w w':World} {v:Value} {xs:List Value} (h:RowIn B w v xs) (hb:Below B w w'):RowIn B w' v xs:=by
 obtain ⟨p,cap,hv,h1,h2,h3,h⟩:=h
 refine ⟨p,cap,hv,h1,h2,h3,?_⟩
 rcases h with h | ⟨b,off,hp,hlt,hc⟩
 ·exact .inl h
 ·exact .inr ⟨b,off,hp,hlt,fun i u hi=>by rw [hb.cell (p:=⟨b,off+i,none⟩) hlt];exact hc i u hi⟩
theorem RowIn.mono {B B':Nat} {w:World} {v:Value} {xs:List Value} (h:RowIn B w v xs) (hB:B≤B'):RowIn B' w v xs:=by
 obtain ⟨p,cap,hv,h1,h2,h3,h⟩:=h
 refine ⟨p,cap,hv,h1,h2,h3,?_⟩
 rcases h with h | ⟨b,off,hp,hlt,hc⟩
 ·exact .inl h
 ·exact .inr ⟨b,off,hp,by omega,hc⟩
def Row (w:World) (v:Value) (xs:List Value):Prop:=RowIn w.heap.size w v xs
theorem Row.below {w w':World} {v:Value} {xs:List Value} {B:Nat} (h:Row w v xs) (hb:Below w.heap.size w w'):Row w' v xs:=(RowIn.below h hb).mono hb.size
theorem Row.nil_ (w:World):Row w (.slice none 0 0) []:=⟨none,0,rfl,Nat.le_refl _,by unfold maxLen;omega,fun _=>rfl,.inl rfl⟩
theorem Row.of_own {w:World} {base e:Nat} {v:Value} {n:Nat} {xs:List Value} (h:w.ownsRow base e 1 v n xs):Row w v xs:=by
 have hn:xs.length=n:=by have:=h.1;omega
 rcases h.2 with ⟨rfl,h0⟩ | ⟨g,cap,cur,rfl,hg,hh,hnc,hm,hs,ht⟩
 ·have:xs=[]:=List.eq_nil_of_length_eq_zero (by omega)
  subst this
  exact Row.nil_ w
 ·refine ⟨some ⟨g,0,none⟩,cap,by rw [hn],by omega,hm,(fun h=>by cases h),.inr ⟨g,0,rfl,(Array.getElem?_eq_some_iff.1 hh).1,fun i u hi => ?_⟩⟩
  rw [Nat.mul_one] at ht
  have:=Lib.cells_of_row hh n i u (by rw [ht];exact hi)
  rw [add_at] at this
  exact this
theorem RowIn.drop {B:Nat} {w:World} {p:Option Addr} {n cap:Nat} {xs:List Value} (h:RowIn B w (.slice p n cap) xs) (k:Nat) (hk:k≤n) :
  RowIn B w (.slice (if cap=k then p else p.map (·.add k)) (n - k) (cap - k)) (xs.drop k):=by
 obtain ⟨p',cap',hv,h1,h2,h3,h⟩:=h
 simp only [Value.slice.injEq] at hv
 obtain ⟨rfl,rfl,rfl⟩:=hv
 refine ⟨_,_,by rw [List.length_drop],by rw [List.length_drop];omega,by omega,fun hp => ?_,?_⟩
 ·by_cases hc:cap=k
  ·omega
  ·rw [if_neg hc] at hp
   have:p=none:=by cases p<;>simp_all
   have:=h3 this
   omega
 by_cases hkn:k=xs.length
 ·left;rw [hkn,List.drop_length]
 ·rcases h with h | ⟨b,off,rfl,hlt,hc⟩
  ·subst h;simp at hk;simp at hkn;omega
  ·right
   rw [if_neg (by omega)]
   refine ⟨b,off+k,?_,hlt,fun i u hi => ?_⟩
   ·simp only [Option.map_some,Option.some.injEq]
    rw [add_at]
   ·rw [List.getElem?_drop] at hi
    rw [Nat.add_assoc]
    exact hc _ u hi
theorem RowIn.take {B:Nat} {w:World} {p:Option Addr} {n cap:Nat} {xs:List Value} (h:RowIn B w (.slice p n cap) xs) (k:Nat) (hk:k≤n):RowIn B w (.slice p k cap) (xs.take k):=by
 obtain ⟨p',cap',hv,h1,h2,h3,h⟩:=h
 simp only [Value.slice.injEq] at hv
 obtain ⟨rfl,rfl,rfl⟩:=hv
 have hl:(xs.take k).length=k:=by rw [List.length_take];omega
 refine ⟨_,_,by rw [hl],by omega,by omega,h3,?_⟩
 rcases h with h | ⟨b,off,rfl,hlt,hc⟩
 ·subst h;left;simp
 ·right
  refine ⟨b,off,rfl,hlt,fun i u hi=>hc i u ?_⟩
  rw [List.getElem?_take] at hi
  split at hi
  ·exact hi
  ·cases hi
def BIn (B:Nat) (w:World) (v:Value) (l:List UInt8):Prop:=RowIn B w v (Lib.byteCells l)
def BRow (w:World) (v:Value) (l:List UInt8):Prop:=BIn w.heap.size w v l
theorem byteCells_len (l:List UInt8):(Lib.byteCells l).length=l.length:=by simp [Lib.byteCells]
theorem byteCells_get (l:List UInt8) (k:Nat) (hk:k<l.length):(Lib.byteCells l)[k]? = some (.int .u8 ((l[k]).toNat:Int)):=by simp [Lib.byteCells,hk]
theorem byteCells_drop (l:List UInt8) (k:Nat):(Lib.byteCells l).drop k=Lib.byteCells (l.drop k):=by simp [Lib.byteCells]
theorem byteCells_take (l:List UInt8) (k:Nat):(Lib.byteCells l).take k=Lib.byteCells (l.take k):=by simp [Lib.byteCells]
def OwnB (B:Nat) (w:World) (v:Value) (l:List UInt8):Prop:=w.ownsRow B 5 1 v l.length (Lib.byteCells l)
theorem OwnB.brow {B:Nat} {w:World} {v:Value} {l:List UInt8} (h:OwnB B w v l):BRow w v l:=Row.of_own h
theorem cell_new1 (w:World) (x:Value) (t:TypeId):∀ j u,[x][j]? = some u→(w.alloc (.cells #[x] t)).cell? ((⟨w.heap.size,0,none⟩:Addr).add j)=some u:=by
 intro j u hj
 match j,hj with
 | 0,hj=>simp at hj;subst hj;simp [Addr.add]
 | (j+1),hj=>simp at hj
theorem int_one (k:IntKind) (r:Int):∀ u∈[Value.int k r],u.oneCell'=true:=by intro u hu;simp at hu;subst hu;rfl
theorem below_app {B:Nat} {w wr w':World} {o:Obj} {v:Value} (hb:Below B w wr) (hB:B≤wr.heap.size) (hv:∀ k,v.ownBlock=some k→B≤k) (hg:(wr.alloc o).grownBy w' v.ownBlock):Below B w w' :=
 (hb.alloc hB o).grown hg (by simp;omega) hv
theorem own_lit (w:World) (xs:List Value) (e B:Nat) (hB:B≤w.heap.size) (hl:xs.length≤maxLen) :
  (w.alloc (.cells xs.toArray e)).ownsRow B e 1 (.slice (some ⟨w.heap.size,0,none⟩) xs.length xs.length) xs.length xs:=by
 refine ⟨by omega,.inr ⟨w.heap.size,xs.length,xs.toArray,rfl,hB,?_,Nat.le_refl _,hl,by simp,by simp⟩⟩
 show (w.heap.push (.cells xs.toArray e))[w.heap.size]? = _
 simp
theorem own_keep {w w':World} {base e size n B:Nat} {v:Value} {xs:List Value} (h:w.ownsRow base e size v n xs) (hb:Below w.heap.size w w'):w'.ownsRow base e size v n xs:=by
 refine ⟨h.1,?_⟩
 rcases h.2 with h0 | ⟨g,cap,cur,hv,hg,hh,rest⟩
 ·exact .inl h0
 ·exact .inr ⟨g,cap,cur,hv,hg,by rw [hb.block g (Array.getElem?_eq_some_iff.1 hh).1];exact hh,rest⟩
theorem OwnB.keep {w w':World} {B:Nat} {v:Value} {l:List UInt8} (h:OwnB B w v l) (hb:Below w.heap.size w w'):OwnB B w' v l:=own_keep (B:=0) h hb
theorem BIn.shape {B:Nat} {w:World} {v:Value} {l:List UInt8} (h:BIn B w v l):∃ p cap,v=.slice p l.length cap∧l.length≤cap∧cap≤maxLen:=by
 obtain ⟨p,cap,hv,h1,h2,_,_⟩:=h
 rw [byteCells_len] at hv h1
 exact ⟨p,cap,hv,h1,h2⟩
theorem BIn.below {B:Nat} {w w':World} {v:Value} {l:List UInt8} (h:BIn B w v l) (hb:Below B w w'):BIn B w' v l:=RowIn.below h hb
theorem BIn.mono {B B':Nat} {w:World} {v:Value} {l:List UInt8} (h:BIn B w v l) (hB:B≤B'):BIn B' w v l:=RowIn.mono h hB
theorem BIn.row {B:Nat} {w:World} {v:Value} {l:List UInt8} (h:BIn B w v l) (hB:B≤w.heap.size):BRow w v l:=RowIn.mono h hB
theorem BRow.below {w w':World} {v:Value} {l:List UInt8} (h:BRow w v l) (hb:Below w.heap.size w w'):BRow w' v l:=Row.below (B:=0) h hb
theorem BIn.at_ {B:Nat} {w:World} {p:Option Addr} {n cap:Nat} {l:List UInt8} (h:BIn B w (.slice p n cap) l) {k:Nat} (hk:k<l.length) :
  ∃ b off,p=some ⟨b,off,none⟩∧b<B∧w.cell? ⟨b,off+k,none⟩=some (.int .u8 ((l[k]).toNat:Int)):=by
 obtain ⟨p',cap',hv,_,_,_,h⟩:=h
 simp only [Value.slice.injEq] at hv
 obtain ⟨rfl,_,_⟩:=hv
 rcases h with h | ⟨b,off,hp,hlt,hc⟩
 ·have:=byteCells_len l;rw [h] at this;simp at this;omega
 ·exact ⟨b,off,hp,hlt,hc k _ (byteCells_get l k hk)⟩
theorem BIn.drop {B:Nat} {w:World} {p:Option Addr} {n cap:Nat} {l:List UInt8} (h:BIn B w (.slice p n cap) l) (k:Nat) (hk:k≤n) :
  BIn B w (.slice (if cap=k then p else p.map (·.add k)) (n - k) (cap - k)) (l.drop k):=by
 have:=RowIn.drop h k hk
 rw [byteCells_drop] at this
 exact this
theorem BIn.drop3 {B:Nat} {w:World} {p:Option Addr} {n cap:Nat} {l:List UInt8} (h:BIn B w (.slice p n cap) l) (k:Nat) (hk:k≤n) :
  (cap=k→BIn B w (.slice p (n - k) 0) (l.drop k))∧(¬ cap=k→BIn B w (.slice (p.map (fun x=>x.add k)) (n - k) (cap - k)) (l.drop k)):=by
 have h1:=h.drop k hk
 constructor
 ·intro hc
  rw [if_pos hc,hc,Nat.sub_self] at h1
  exact h1
 ·intro hc
  rw [if_neg hc] at h1
  exact h1
theorem BIn.take {B:Nat} {w:World} {p:Option Addr} {n cap:Nat} {l:List UInt8} (h:BIn B w (.slice p n cap) l) (k:Nat) (hk:k≤n):BIn B w (.slice p k cap) (l.take k):=by
 have:=RowIn.take h k hk
 rw [byteCells_take] at this
 exact this
theorem bytes_cat (l m:List UInt8):(⟨l.toArray⟩:ByteArray)++⟨m.toArray⟩=⟨(l++m).toArray⟩:=by
 apply ByteArray.ext
 simp
theorem BIn.conv {B:Nat} {w:World} {v:Value} {l:List UInt8} (h:BIn B w v l):(convert 171 9 v).run Tryz.prog w=.ok (.string ⟨l.toArray⟩) w:=by
 obtain ⟨p,cap,hv,_,_,_,h⟩:=h
 rw [byteCells_len] at hv
 subst hv
 rcases h with h | ⟨b,off,rfl,_,hc⟩
 ·have h0:l.length=0:=by rw [← byteCells_len,h];rfl
  have:l=[]:=List.eq_nil_of_length_eq_zero h0
  subst this
  show (convert 171 9 (.slice p 0 cap)).run Tryz.prog w=.ok (.string ⟨#[]⟩) w
  rw [run_convert_bytes_string w 171 9 5 p 0 cap Tryz.underlying171 Tryz.underlying5 Tryz.underlying9]
  cases p with
  | none=>simp [Conv.bytesToString];rfl
  | some a=>exact run_bytesToString w a 0 cap [] (run_loadCells_list (P:=Tryz.prog) w a [] (fun j v hj=>by simp at hj))
 ·exact run_convert_bytes_back w 171 9 5 _ cap l Tryz.underlying171 Tryz.underlying5 Tryz.underlying9 (fun j hj=>by
   have:=hc j _ (byteCells_get l j hj)
   rw [add_at];exact this)
end Go.Proofs.YtidhgicajlaafaaGreat.MM
namespace Go.Proofs.YtidhgicajlaafaaGreat.MM
open Go.RowKit
theorem OwnB.shape {B:Nat} {w:World} {v:Value} {l:List UInt8} (h:OwnB B w v l) (hl:l.length≠0):∃ g cap,v=.slice (some ⟨g,0,none⟩) l.length cap∧B≤g∧l.length≤cap∧cap≤maxLen:=by
 rcases h.2 with ⟨_,h0⟩ | ⟨g,cap,cur,hv,hb,_,hn,hm,_⟩
 ·exact absurd h0 hl
 ·exact ⟨g,cap,hv,hb,hn,hm⟩
theorem OwnB.cell {B:Nat} {w:World} {g n cap j:Nat} {l:List UInt8} {c:UInt8} (h:OwnB B w (.slice (some ⟨g,0,none⟩) n cap) l) (hj:l[j]? = some c):w.cell? ⟨g,j,none⟩=some (.int .u8 (c.toNat:Int)):=by
 obtain ⟨hlt,he⟩:=List.getElem?_eq_some_iff.1 hj
 obtain ⟨b,off,hp,_,hc⟩:=h.brow.at_ hlt
 rcases h.2 with ⟨hv,_⟩ | ⟨g',cap',cur,hv,hb,hh,hn,hm,hs,ht⟩
 ·cases hv
 ·simp only [Value.slice.injEq,Option.some.injEq,Addr.mk.injEq] at hv hp
  obtain ⟨⟨rfl,_⟩,_⟩:=hv
  obtain ⟨rfl,rfl,_⟩:=hp
  rw [he,Nat.zero_add] at hc
  exact hc
theorem OwnB.set {B:Nat} {w:World} {g n cap j:Nat} {l:List UInt8} (h:OwnB B w (.slice (some ⟨g,0,none⟩) n cap) l) (c:UInt8) :
  OwnB B (w.setCell ⟨g,j,none⟩ (.int .u8 (c.toNat:Int))) (.slice (some ⟨g,0,none⟩) n cap) (l.set j c):=by
 refine ⟨by rw [byteCells_len];omega,?_⟩
 rcases h.2 with ⟨hv,_⟩ | ⟨g',cap',cur,hv,hb,hh,hn,hm,hs,ht⟩
 ·cases hv
 ·have hv':=hv
  simp only [Value.slice.injEq,Option.some.injEq,Addr.mk.injEq] at hv
  obtain ⟨⟨rfl,_⟩,hnn,rfl⟩:=hv
  refine .inr ⟨g,cap,cur.setIfInBounds j (.int .u8 (c.toNat:Int)),by rw [List.length_set,hnn],hb,heap_setCell_same w g j cur _ _ hh,by rw [List.length_set];exact hn,hm,by rw [Array.size_setIfInBounds];exact hs,?_⟩
  rw [List.length_set,Array.toList_setIfInBounds,List.take_set,ht]
  simp [Lib.byteCells,List.map_set]
end Go.Proofs.YtidhgicajlaafaaGreat.MM
namespace Go.Proofs.YtidhgicajlaafaaGreat.MM
open Go.RowKit
structure Kep (S:Nat→Prop) (w w':World):Prop where
 os:w'.os=w.os
 tape:w'.tape=w.tape
 output:w'.output=w.output
 size:w.heap.size≤w'.heap.size
 block:∀ k,k<w.heap.size→S k→w'.heap[k]? = w.heap[k]?
theorem Kep.refl (S:Nat→Prop) (w:World):Kep S w w:=⟨rfl,rfl,rfl,Nat.le_refl _,fun _ _ _=>rfl⟩
theorem Kep.trans {S:Nat→Prop} {a b c:World} (h:Kep S a b) (k:Kep S b c):Kep S a c :=
 ⟨k.os.trans h.os,k.tape.trans h.tape,k.output.trans h.output,Nat.le_trans h.size k.size,fun i hi hs=>(k.block i (Nat.lt_of_lt_of_le hi h.size) hs).trans (h.block i hi hs)⟩
theorem Kep.mono {S T:Nat→Prop} {a b:World} (h:Kep S a b) (hT:∀ k,T k→S k):Kep T a b:=⟨h.os,h.tape,h.output,h.size,fun k hk ht=>h.block k hk (hT k ht)⟩
theorem Kep.mono' {S T:Nat→Prop} {a b:World} (h:Kep S a b) (hT:∀ k,k<a.heap.size→T k→S k):Kep T a b:=⟨h.os,h.tape,h.output,h.size,fun k hk ht=>h.block k hk (hT k hk ht)⟩
theorem Kep.drew {S:Nat→Prop} {a b:World} (h:Kep S a b):Kep S a b.drew:=⟨h.os,h.tape,h.output,h.size,h.block⟩
theorem kep_below {w w':World} (S:Nat→Prop) (h:Below w.heap.size w w'):Kep S w w':=⟨h.os,h.tape,h.output,h.size,fun k hk _=>h.block k hk⟩
theorem kep_alloc (S:Nat→Prop) (w:World) (o:Obj):Kep S w (w.alloc o):=kep_below S ((Below.refl _ _).alloc (Nat.le_refl _) o)
theorem kep_set {S:Nat→Prop} {w:World} {g i:Nat} (hg:¬ S g) (u:Value):Kep S w (w.setCell ⟨g,i,none⟩ u) :=
 ⟨rfl,rfl,rfl,by simp,fun k _ hs=>Below.heap_setCell _ _ _ _ (fun e=>hg (by rw [← show k=g from e];exact hs))⟩
theorem kep_grown {S:Nat→Prop} {w w':World} {row:Option Nat} (h:w.grownBy w' row) (hr:∀ k,row=some k→¬ S k):Kep S w w' :=
 ⟨h.os,h.tape,h.output,h.size,fun k hk hs=>h.block k hk (fun e=>hr k e.symm hs)⟩
theorem Kep.below {S:Nat→Prop} {w w':World} {B:Nat} (h:Kep S w w') (hB:B≤w.heap.size) (hS:∀ k,k<B→S k):Below B w w' :=
 ⟨h.os,h.tape,h.output,h.size,fun k hk=>h.block k (Nat.lt_of_lt_of_le hk hB) (hS k hk)⟩
theorem Kep.andThen {S T:Nat→Prop} {a b c:World} (h:Kep S a b) (k:Kep T b c) (hT:∀ i,i<a.heap.size→S i→T i):Kep S a c :=
 ⟨k.os.trans h.os,k.tape.trans h.tape,k.output.trans h.output,Nat.le_trans h.size k.size,fun i hi hs=>(k.block i (Nat.lt_of_lt_of_le hi h.size) (hT i hi hs)).trans (h.block i hi hs)⟩
theorem kep_draw (S:Nat→Prop) (w:World):Kep S w w.drew:=(Kep.refl S w).drew
theorem Kep.cell {S:Nat→Prop} {w w':World} (h:Kep S w w') {b:Nat} (hb:b<w.heap.size) (hS:S b) (i:Nat):w'.cell? ⟨b,i,none⟩=w.cell? ⟨b,i,none⟩:=World.cell?_of_block (a:=⟨b,i,none⟩) (h.block b hb hS)
end Go.Proofs.YtidhgicajlaafaaGreat.MM
namespace Go.Proofs.YtidhgicajlaafaaGreat.VM
def bytesF:Nat→Nat→List UInt8
 | 0,n=>[UInt8.ofNat n]
 | k+1,n=>if n<128 then [UInt8.ofNat n] else UInt8.ofNat (n%128+128)::bytesF k (n / 128)
def bytesL (n:Nat):List UInt8:=bytesF 9 n
end Go.Proofs.YtidhgicajlaafaaGreat.VM
namespace Go.Proofs.YtidhgicajlaafaaGreat.MM
open Go.RowKit
theorem same_list (l m:List UInt8):((⟨l.toArray⟩:ByteArray).toList == (⟨m.toArray⟩:ByteArray).toList)=decide (l=m):=by
 rw [Lib.toList_data,Lib.toList_data]
 by_cases h:l=m
 ·subst h;simp
 ·simp [h]
end Go.Proofs.YtidhgicajlaafaaGreat.MM
