import Derived.Test.YtdfibahafilklaaGreatDoorZB1
set_option maxRecDepth 100000
set_option maxHeartbeats 8000000
set_option linter.unusedVariables false
set_option linter.unusedSimpArgs false
namespace Go.Proofs.YtdfibahafilklaaGreatDoor.DK
structure FileD where
 name:List UInt8
 b:List UInt8
 sure:Nat
structure DiskD where
 L:List FileD
 quota:Int
 armed:Int
 stopped:Bool
def charOk (c:UInt8):Bool:=(97≤c&&c≤122)||(48≤c&&c≤57)||c == 45||c == 46
def namedL (s:List UInt8):Bool:=decide (1≤s.length)&&decide (s.length≤64)&&s.all charOk
def lessL:List UInt8→List UInt8→Bool
 | [],[]=>false
 | [],_::_=>true
 | _::_,[]=>false
 | a::s,b::t=>if a=b then lessL s t else decide (a<b)
theorem lessL_irr:∀ s:List UInt8,lessL s s=false
 | []=>rfl
 | a::s=>by simp [lessL,lessL_irr s]
theorem lessL_total:∀ s t:List UInt8,s≠t→lessL s t=false→lessL t s=true
 | [],[],h,_=>absurd rfl h
 | [],_::_,_,h=>by simp [lessL] at h
 | _::_,[],_,_=>rfl
 | a::s,b::t,h,hl=>by
   unfold lessL at hl ⊢
   by_cases e:a=b
   ·subst e
    rw [if_pos rfl] at hl ⊢
    exact lessL_total s t (fun k=>h (by rw [k])) hl
   ·rw [if_neg e] at hl
    rw [if_neg (fun k=>e k.symm)]
    have h1:¬ a<b:=of_decide_eq_false hl
    have h2:a.toNat≠b.toNat:=fun k=>e (UInt8.toNat_inj.1 k)
    rw [UInt8.lt_iff_toNat_lt] at h1
    rw [decide_eq_true_eq,UInt8.lt_iff_toNat_lt]
    omega
theorem lessL_trans:∀ s t u:List UInt8,lessL s t=true→lessL t u=true→lessL s u=true
 | [],[],_,h,_=>by simp [lessL] at h
 | [],_::_,[],_,h=>by simp [lessL] at h
 | [],_::_,_::_,_,_=>rfl
 | _::_,[],_,h,_=>by simp [lessL] at h
 | _::_,_::_,[],_,h=>by simp [lessL] at h
 | a::s,b::t,c::u,h1,h2=>by
   unfold lessL at h1 h2 ⊢
   by_cases e1:a=b
   ·subst e1
    rw [if_pos rfl] at h1
    by_cases e2:a=c
    ·subst e2
     rw [if_pos rfl] at h2 ⊢
     exact lessL_trans s t u h1 h2
    ·rw [if_neg e2] at h2 ⊢
     exact h2
   ·rw [if_neg e1] at h1
    by_cases e2:b=c
    ·subst e2
     rw [if_neg e1]
     exact h1
    ·rw [if_neg e2] at h2
     have k1:a<b:=of_decide_eq_true h1
     have k2:b<c:=of_decide_eq_true h2
     rw [UInt8.lt_iff_toNat_lt] at k1 k2
     have e3:a≠c:=fun k=>by
      subst k
      omega
     rw [if_neg e3,decide_eq_true_eq,UInt8.lt_iff_toNat_lt]
     omega
def findL (l:List FileD) (n:List UInt8):Option FileD:=l.find? (fun f=>decide (f.name=n))
def usedL (l:List FileD):Nat:=(l.map (·.b.length)).sum
def withoutL (l:List FileD) (n:List UInt8):List FileD:=l.filter (fun f=>decide (f.name≠n))
def insL (f:FileD):List FileD→List FileD
 | []=>[f]
 | g::l=>if lessL f.name g.name then f::g::l else g::insL f l
def withL (l:List FileD) (f:FileD):List FileD:=insL f (withoutL l f.name)
def Rise:List FileD→Prop
 | []=>True
 | f::l=>(∀ g∈l,lessL f.name g.name=true)∧Rise l
theorem mem_insL {f g:FileD}:∀ {l:List FileD},g∈insL f l↔g=f∨g∈l
 | []=>by simp [insL]
 | x::l=>by
   unfold insL
   split
   ·simp
   ·simp only [List.mem_cons,mem_insL (l:=l)]
    constructor
    ·rintro (h | h | h)<;>simp [h]
    ·rintro (h | h | h)<;>simp [h]
theorem rise_ins {f:FileD}:∀ {l:List FileD},Rise l→(∀ g∈l,g.name≠f.name)→Rise (insL f l)
 | [],_,_=>⟨by simp,trivial⟩
 | x::l,h,hn=>by
   unfold insL
   split
   ·rename_i hl
    refine ⟨fun g hg => ?_,h⟩
    rcases List.mem_cons.1 hg with rfl | hg
    ·exact hl
    ·exact lessL_trans _ _ _ hl (h.1 g hg)
   ·rename_i hl
    refine ⟨fun g hg => ?_,rise_ins h.2 fun g hg=>hn g (List.mem_cons_of_mem _ hg)⟩
    rcases mem_insL.1 hg with rfl | hg
    ·exact lessL_total _ _ (fun k=>hn x (List.mem_cons_self ..) k.symm) (by simpa using hl)
    ·exact h.1 g hg
theorem rise_without {n:List UInt8}:∀ {l:List FileD},Rise l→Rise (withoutL l n)
 | [],_=>trivial
 | x::l,h=>by
   unfold withoutL
   rw [List.filter_cons]
   split
   ·exact ⟨fun g hg=>h.1 g (List.mem_filter.1 hg).1,rise_without h.2⟩
   ·exact rise_without h.2
theorem rise_with {l:List FileD} {f:FileD} (h:Rise l):Rise (withL l f) :=
 rise_ins (rise_without h) fun g hg=>by
  have:=(List.mem_filter.1 hg).2
  simpa using this
theorem find_mem {l:List FileD} {n:List UInt8} {f:FileD} (h:findL l n=some f):f∈l∧f.name=n:=by
 unfold findL at h
 exact ⟨List.mem_of_find?_eq_some h,by simpa using List.find?_some h⟩
theorem without_none {l:List FileD} {n:List UInt8} (h:∀ f∈l,f.name≠n):withoutL l n=l:=by
 unfold withoutL
 rw [List.filter_eq_self]
 simpa using h
def callD (d:DiskD):DiskD×Bool :=
 if d.armed=0 then (d,false) else ({ d with armed:=d.armed - 1,stopped:=d.stopped||decide (d.armed - 1=0) },d.stopped||decide (d.armed - 1=0))
def appendD (d:DiskD) (n b:List UInt8):DiskD×Int :=
 if ¬ namedL n=true then (d,60) else if d.stopped=true then (d,63)
 else if findL d.L n=none∧1024≤d.L.length then (d,3)
 else if 67108864<(((findL d.L n).map (·.b)).getD []).length+b.length then (d,2)
 else if 0<d.quota∧b≠[]∧d.quota<(usedL d.L:Int)+b.length then (d,62)
 else if (callD d).2=true then ((callD d).1,63)
 else ({ (callD d).1 with L:=withL (callD d).1.L ⟨n,((findL d.L n).map (·.b)).getD []++b,((findL d.L n).map (·.sure)).getD 0⟩ },0)
structure Good (d:DiskD):Prop where
 rise:Rise d.L
 sure:∀ f∈d.L,f.sure≤f.b.length
theorem call_L (d:DiskD):(callD d).1.L=d.L∧(callD d).1.quota=d.quota:=by
 unfold callD
 split<;>exact ⟨rfl,rfl⟩
theorem mem_withL {l:List FileD} {f g:FileD} (h:g∈withL l f):g=f∨g∈l:=by
 rcases mem_insL.1 h with h | h
 ·exact .inl h
 ·exact .inr (List.mem_filter.1 h).1
theorem append_good {d:DiskD} (n b:List UInt8) (h:Good d):Good (appendD d n b).1∧((appendD d n b).2≠0→(appendD d n b).1.L=d.L)∧(appendD d n b).1.quota=d.quota:=by
 have hc:=call_L d
 have hg:Good (callD d).1:=⟨by rw [hc.1];exact h.rise,by rw [hc.1];exact h.sure⟩
 unfold appendD
 repeat' split
 all_goals first
  | exact ⟨h,fun _=>rfl,rfl⟩
  | exact ⟨hg,fun _=>hc.1,hc.2⟩
  | skip
 refine ⟨⟨rise_with hg.rise,fun f hf => ?_⟩,fun k=>absurd rfl k,hc.2⟩
 rcases mem_withL hf with rfl | hf
 ·simp only [List.length_append]
  cases e:findL d.L n with
  | none=>simp
  | some g =>
    have:=h.sure g (find_mem e).1
    simp only [Option.map_some,Option.getD_some]
    omega
 ·exact hg.sure f hf
theorem rise_find:∀ {l:List FileD} {f:FileD},Rise l→f∈l→findL l f.name=some f
 | [],_,_,h=>by simp at h
 | x::l,f,hr,h=>by
   unfold findL
   rw [List.find?_cons]
   rcases List.mem_cons.1 h with rfl | h
   ·simp
   ·have hl:=hr.1 f h
    have hne:x.name≠f.name:=fun k=>by
     rw [k,lessL_irr] at hl
     cases hl
    rw [show decide (x.name=f.name)=false by simp [hne]]
    exact rise_find hr.2 h
end Go.Proofs.YtdfibahafilklaaGreatDoor.DK
namespace Go.Proofs.YtdfibahafilklaaGreatDoor.MM
open Go.RowKit
theorem OwnB.shape {B:Nat} {w:World} {v:Value} {l:List UInt8} (h:OwnB B w v l) (hl:l.length≠0):∃ g cap,v=.slice (some ⟨g,0,none⟩) l.length cap∧B≤g∧l.length≤cap∧cap≤maxLen:=by
 rcases h.2 with ⟨_,h0⟩ | ⟨g,cap,cur,hv,hb,_,hn,hm,_⟩
 ·exact absurd h0 hl
 ·exact ⟨g,cap,hv,hb,hn,hm⟩
theorem OwnB.free {B:Nat} {w:World} {g n cap:Nat} {l:List UInt8} (h:OwnB B w (.slice (some ⟨g,0,none⟩) n cap) l) (j:Nat):w.frozen? ⟨g,j,none⟩=false:=by
 rcases h.2 with ⟨hv,_⟩ | ⟨g',cap',cur,hv,hb,hh,_⟩
 ·cases hv
 ·simp only [Value.slice.injEq,Option.some.injEq,Addr.mk.injEq] at hv
  obtain ⟨⟨rfl,_⟩,_⟩:=hv
  exact frozen_of_row w g j cur _ hh
theorem OwnB.cell {B:Nat} {w:World} {g n cap j:Nat} {l:List UInt8} {c:UInt8} (h:OwnB B w (.slice (some ⟨g,0,none⟩) n cap) l) (hj:l[j]? = some c):w.cell? ⟨g,j,none⟩=some (.int .u8 (c.toNat:Int)):=by
 obtain ⟨hlt,he⟩:=List.getElem?_eq_some_iff.1 hj
 obtain ⟨b,off,hp,_,hc⟩:=h.brow.at_ hlt
 rcases h.2 with ⟨hv,_⟩ | ⟨g',cap',cur,hv,hb,hh,hn,hm,hs,ht⟩
 ·cases hv
 ·simp only [Value.slice.injEq,Option.some.injEq,Addr.mk.injEq] at hv hp
  obtain ⟨⟨rfl,_⟩,_⟩:=hv
  obtain ⟨rfl,rfl,_⟩:=hp
  rw [he,Nat.zero_add] at hc
  exact hc
end Go.Proofs.YtdfibahafilklaaGreatDoor.MM
namespace Go.Proofs.YtdfibahafilklaaGreatDoor.MM
open Go.RowKit
structure Kep (S:Nat→Prop) (w w':World):Prop where
 os:w'.os=w.os
 tape:w'.tape=w.tape
 output:w'.output=w.output
 size:w.heap.size≤w'.heap.size
 block:∀ k,k<w.heap.size→S k→w'.heap[k]? = w.heap[k]?
theorem Kep.refl (S:Nat→Prop) (w:World):Kep S w w:=⟨rfl,rfl,rfl,Nat.le_refl _,fun _ _ _=>rfl⟩
theorem Kep.trans {S:Nat→Prop} {a b c:World} (h:Kep S a b) (k:Kep S b c):Kep S a c :=
 ⟨k.os.trans h.os,k.tape.trans h.tape,k.output.trans h.output,Nat.le_trans h.size k.size,fun i hi hs=>(k.block i (Nat.lt_of_lt_of_le hi h.size) hs).trans (h.block i hi hs)⟩
theorem Kep.mono {S T:Nat→Prop} {a b:World} (h:Kep S a b) (hT:∀ k,T k→S k):Kep T a b:=⟨h.os,h.tape,h.output,h.size,fun k hk ht=>h.block k hk (hT k ht)⟩
theorem Kep.mono' {S T:Nat→Prop} {a b:World} (h:Kep S a b) (hT:∀ k,k<a.heap.size→T k→S k):Kep T a b:=⟨h.os,h.tape,h.output,h.size,fun k hk ht=>h.block k hk (hT k hk ht)⟩
theorem Kep.drew {S:Nat→Prop} {a b:World} (h:Kep S a b):Kep S a b.drew:=⟨h.os,h.tape,h.output,h.size,h.block⟩
theorem Kep.drewN {S:Nat→Prop} {a b:World} (h:Kep S a b) (n:Nat):Kep S a (b.drewN n):=⟨h.os,h.tape,h.output,h.size,h.block⟩
theorem kep_below {w w':World} (S:Nat→Prop) (h:Below w.heap.size w w'):Kep S w w':=⟨h.os,h.tape,h.output,h.size,fun k hk _=>h.block k hk⟩
theorem kep_alloc (S:Nat→Prop) (w:World) (o:Obj):Kep S w (w.alloc o):=kep_below S ((Below.refl _ _).alloc (Nat.le_refl _) o)
theorem kep_set {S:Nat→Prop} {w:World} {g i:Nat} (hg:¬ S g) (u:Value):Kep S w (w.setCell ⟨g,i,none⟩ u) :=
 ⟨rfl,rfl,rfl,by simp,fun k _ hs=>Below.heap_setCell _ _ _ _ (fun e=>hg (by rw [← show k=g from e];exact hs))⟩
theorem kep_grown {S:Nat→Prop} {w w':World} {row:Option Nat} (h:w.grownBy w' row) (hr:∀ k,row=some k→¬ S k):Kep S w w' :=
 ⟨h.os,h.tape,h.output,h.size,fun k hk hs=>h.block k hk (fun e=>hr k e.symm hs)⟩
theorem Kep.below {S:Nat→Prop} {w w':World} {B:Nat} (h:Kep S w w') (hB:B≤w.heap.size) (hS:∀ k,k<B→S k):Below B w w' :=
 ⟨h.os,h.tape,h.output,h.size,fun k hk=>h.block k (Nat.lt_of_lt_of_le hk hB) (hS k hk)⟩
theorem Kep.andThen {S T:Nat→Prop} {a b c:World} (h:Kep S a b) (k:Kep T b c) (hT:∀ i,i<a.heap.size→S i→T i):Kep S a c :=
 ⟨k.os.trans h.os,k.tape.trans h.tape,k.output.trans h.output,Nat.le_trans h.size k.size,fun i hi hs=>(k.block i (Nat.lt_of_lt_of_le hi h.size) (hT i hi hs)).trans (h.block i hi hs)⟩
theorem kep_draw (S:Nat→Prop) (w:World):Kep S w w.drew:=(Kep.refl S w).drew
theorem Kep.cell {S:Nat→Prop} {w w':World} (h:Kep S w w') {b:Nat} (hb:b<w.heap.size) (hS:S b) (i:Nat):w'.cell? ⟨b,i,none⟩=w.cell? ⟨b,i,none⟩:=World.cell?_of_block (a:=⟨b,i,none⟩) (h.block b hb hS)
end Go.Proofs.YtdfibahafilklaaGreatDoor.MM
namespace Go.Proofs.YtdfibahafilklaaGreatDoor.MM
open Go.RowKit
def IRow (w:World) (v:Value) (zs:List Int):Prop:=Row w v (zs.map (Value.int .i64))
def OwnI (B:Nat) (w:World) (v:Value) (zs:List Int):Prop:=w.ownsRow B 3 1 v zs.length (zs.map (Value.int .i64))
theorem OwnI.keep {w w':World} {B:Nat} {v:Value} {zs:List Int} (h:OwnI B w v zs) (hb:Below w.heap.size w w'):OwnI B w' v zs:=own_keep (B:=0) h hb
theorem IRow.below {w w':World} {v:Value} {zs:List Int} (h:IRow w v zs) (hb:Below w.heap.size w w'):IRow w' v zs:=Row.below (B:=0) h hb
theorem IRow.shape {w:World} {v:Value} {zs:List Int} (h:IRow w v zs):∃ p cap,v=.slice p zs.length cap∧zs.length≤cap∧cap≤maxLen:=by
 obtain ⟨p,cap,hv,h1,h2,_,_⟩:=h
 rw [List.length_map] at hv h1
 exact ⟨p,cap,hv,h1,h2⟩
theorem IRow.at_ {w:World} {p:Option Addr} {n cap:Nat} {zs:List Int} (h:IRow w (.slice p n cap) zs) {k:Nat} (hk:k<zs.length) :
  ∃ b off,p=some ⟨b,off,none⟩∧b<w.heap.size∧w.cell? ⟨b,off+k,none⟩=some (.int .i64 (zs.getD k 0)):=by
 obtain ⟨p',cap',hv,_,_,_,h⟩:=h
 simp only [Value.slice.injEq] at hv
 obtain ⟨rfl,_,_⟩:=hv
 rcases h with h | ⟨b,off,hp,hlt,hc⟩
 ·have:zs=[]:=List.map_eq_nil_iff.1 h
  subst this
  simp at hk
 ·exact ⟨b,off,hp,hlt,hc k _ (by simp [List.getD,hk])⟩
theorem IRow.take {w:World} {p:Option Addr} {n cap:Nat} {zs:List Int} (h:IRow w (.slice p n cap) zs) (k:Nat) (hk:k≤n):IRow w (.slice p k cap) (zs.take k):=by
 have:=RowIn.take h k hk
 rw [← List.map_take] at this
 exact this
end Go.Proofs.YtdfibahafilklaaGreatDoor.MM
