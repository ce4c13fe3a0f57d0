import Derived.Test.YtdijhifdjbnkfaaGreatZB6
import Derived.Test.YtdijhifdjbnkfaaGreatZB2
import Derived.Deep.AppendLies
import Derived.Test.YtdijhifdjbnkfaaGreatZB14
import Derived.Test.YtdijhifdjbnkfaaGreatZB5
import Derived.Test.YtdijhifdjbnkfaaGreatZB7
set_option linter.unusedVariables false
set_option linter.unusedSimpArgs false
namespace Go.Proofs.YtdijhifdjbnkfaaGreat.DT
open Go Go.RowKit Go.Proofs.YtdijhifdjbnkfaaGreat.MM Go.Proofs.YtdijhifdjbnkfaaGreat.DM
open Go.Proofs.YtdijhifdjbnkfaaGreat.EM (lessL less_bytes)
theorem infoEnt:(Tryz.prog.info? 102).map (·.size)=some 4:=by kernel_rfl
theorem entE:Elem entC Tryz.prog 97 102 40:=⟨Tryz.underlying97,by
 have h:(Tryz.prog.info? 102).map (fun i=>(i.zero,i.size,i.bytes))=some (some (.agg #[.string ⟨#[]⟩,.int .i64 0,.int .i64 0,.int .i64 0]),4,40):=by kernel_rfl
 obtain ⟨i,h1,h2,h3,h4⟩:=info_parts h
 exact ⟨i,_,h1,h2,h3,h4,rfl⟩⟩
def Found (o:Option Ent) (w:World) (e:Ending) (w':World):Prop:=e=.returned (.tuple #[entV (o.getD nilX),.bool o.isSome])∧Below w.heap.size w w'
end Go.Proofs.YtdijhifdjbnkfaaGreat.DT
namespace Go.Proofs.YtdijhifdjbnkfaaGreat.GB
open Go Go.RowKit Go.Proofs.YtdijhifdjbnkfaaGreat.MM
def Grown (w w':World) (v v':Value):Prop:=w.grownBy w' v.ownBlock∧∀ k,v'.ownBlock=some k→v.ownBlock=some k∨w.heap.size≤k
theorem grownBy_refl (w:World) (r:Option Nat):w.grownBy w r:=⟨rfl,rfl,rfl,Nat.le_refl _,fun _ _ _=>rfl⟩
theorem Grown.refl (w:World) (v:Value):Grown w w v v:=⟨grownBy_refl _ _,fun k h=>.inl h⟩
theorem Grown.trans {a b c:World} {u v x:Value} (h:Grown a b u v) (k:Grown b c v x):Grown a c u x:=by
 obtain ⟨h1,h2⟩:=h
 obtain ⟨k1,k2⟩:=k
 refine ⟨⟨k1.os.trans h1.os,k1.tape.trans h1.tape,k1.output.trans h1.output,Nat.le_trans h1.size k1.size,fun i hi hne => ?_⟩,fun i hi => ?_⟩
 ·rw [k1.block i (Nat.lt_of_lt_of_le hi h1.size) (fun e => ?_),h1.block i hi hne]
  rcases h2 i e.symm with h | h
  ·exact hne h.symm
  ·omega
 ·rcases k2 i hi with h | h
  ·exact h2 i h
  ·exact .inr (Nat.le_trans h1.size h)
theorem Grown.kep {w w':World} {v v':Value} (h:Grown w w' v v'):Kep (fun b=>v.ownBlock≠some b) w w':=kep_grown h.1 fun k hk hne=>hne hk
theorem Grown.of_below {a b c:World} {u v:Value} (h:Below a.heap.size a b) (k:Grown b c u v) (hu:∀ i,u.ownBlock=some i→i<a.heap.size):Grown a c u v :=
 ⟨⟨k.1.os.trans h.os,k.1.tape.trans h.tape,k.1.output.trans h.output,Nat.le_trans h.size k.1.size,fun i hi hne=>by rw [k.1.block i (Nat.lt_of_lt_of_le hi h.size) hne,h.block i hi]⟩,fun i hi=>by
   rcases k.2 i hi with e | e
   ·exact .inl e
   ·exact .inr (Nat.le_trans h.size e)⟩
theorem Grown.below {a b c:World} {u v:Value} (h:Grown a b u v) (k:Below b.heap.size b c):Grown a c u v :=
 ⟨⟨k.os.trans h.1.os,k.tape.trans h.1.tape,k.output.trans h.1.output,Nat.le_trans h.1.size k.size,fun i hi hne=>by rw [k.block i (Nat.lt_of_lt_of_le hi h.1.size),h.1.block i hi hne]⟩,h.2⟩
theorem own_lt {w:World} {v:Value} {l:List UInt8} {B:Nat} (h:OwnB B w v l):∀ i,v.ownBlock=some i→i<w.heap.size:=fun i hi=>(World.ownsRow.lt h i hi).2
theorem OwnB.zero {w:World} {v:Value} {l:List UInt8} {B:Nat} (h:OwnB B w v l):OwnB 0 w v l:=OwnB.weaken h (Nat.zero_le _)
theorem OwnB.from {w:World} {v:Value} {l:List UInt8} {B:Nat} (h:OwnB 0 w v l) (hB:∀ k,v.ownBlock=some k→B≤k):OwnB B w v l:=by
 refine ⟨h.1,?_⟩
 rcases h.2 with h0 | ⟨g,cap,cur,hv,hg,rest⟩
 ·exact .inl h0
 ·exact .inr ⟨g,cap,cur,hv,hB g (by rw [hv];rfl),rest⟩
theorem OwnB.kepOwn {S:Nat→Prop} {w w':World} {v:Value} {l:List UInt8} {B:Nat} (h:OwnB B w v l) (hk:Kep S w w') (hS:∀ k,v.ownBlock=some k→S k):OwnB B w' v l:=by
 refine ⟨h.1,?_⟩
 rcases h.2 with h0 | ⟨g,cap,cur,hv,hg,hh,rest⟩
 ·exact .inl h0
 ·exact .inr ⟨g,cap,cur,hv,hg,by rw [hk.block g (Array.getElem?_eq_some_iff.1 hh).1 (hS g (by rw [hv];rfl))];exact hh,rest⟩
def AppL (l:List UInt8) (v:Value) (w:World) (e:Ending) (w':World):Prop:=∃ v',e=.returned v'∧OwnB 0 w' v' l∧Grown w w' v v'
theorem wpList_append_grown {w:World} {ops:Array Oper} {rest:List Oper} {o:Oper} {a:Act} {Q:Exit→Act→World→Prop} (hgd:o.guard=none) (s x:Operand)
  (ho:o.op=.call { callee:=.builtin .append,args:=#[s,x],argTypes:=#[23,23] }) (v:Value) (l:List UInt8) (hs:a.eval s=v) (hown:OwnB 0 w v l)
  (src:Value) (m:List UInt8) (hx:a.eval x=src) (hr:BRow w src m) (hm:m≠[]) (hlen:l.length+m.length≤140737488355328)
  (h:∀ v' w',OwnB 0 w' v' (l++m)→Grown w w' v v'→wpList Tryz.prog ops Q rest (a.put o.dst v') w'):wpList Tryz.prog ops Q (o::rest) a w:=by
 obtain ⟨i0,hi,hz0,hz1,hz2⟩:=info_parts infoByte
 have h0:=List.length_pos_iff.2 hm
 obtain ⟨p,cap,rfl,_,_,h3,hc⟩:=hr
 rcases hc with hc | ⟨b,off,rfl,_,hc⟩
 ·have:=byteCells_len m;rw [hc] at this;simp at this;omega
 ·refine wpList_append_lies w hgd s x 23 ho 0 5 i0 (.int .u8 0) 1 1 Tryz.underlying23 hi hz0 hz1 hz2 rfl (by decide) v l.length (Lib.byteCells l) hs hown ⟨b,off,none⟩ (Lib.byteCells m).length cap (Lib.byteCells m) hx (by simp)
   (fun j u hu=>by rw [add_at];exact hc j u hu) (byteCells_one m) (by rw [byteCells_len];omega) (by rw [byteCells_len];unfold maxLen;omega) (by rw [byteCells_len];omega) (Nat.zero_le _) w.heap.size rfl ?_
  intro g cap' w' hown' hgrow hat _
  refine h _ w' ?_ ⟨hgrow,fun k hk => ?_⟩
  ·unfold OwnB
   rw [List.length_append,byteCells_append]
   rw [byteCells_len] at hown' ⊢
   exact hown'
  ·simp only [Value.ownBlock,Option.some.injEq] at hk
   subst hk
   rcases hat with h | h
   ·exact .inl h
   ·exact .inr (Nat.le_of_eq h.symm)
end Go.Proofs.YtdijhifdjbnkfaaGreat.GB
namespace Go.Proofs.YtdijhifdjbnkfaaGreat.SG
open Go Go.RowKit Go.Proofs.YtdijhifdjbnkfaaGreat.MM Go.Proofs.YtdijhifdjbnkfaaGreat.VM Go.Proofs.YtdijhifdjbnkfaaGreat.VP
open Go.Proofs.YtdijhifdjbnkfaaGreat.EV (docC fldC doc_at)
open Go.Proofs.YtdijhifdjbnkfaaGreat.SM (Doc)
open Go.Proofs.YtdijhifdjbnkfaaGreat.GM (timesG lastT lastT_next)
theorem i64_in (z:Int) : -9223372036854775808≤IntKind.i64.wrap z∧IntKind.i64.wrap z≤9223372036854775807:=by
 rw [IntWalk.i64_left]
 unfold wrap64
 omega
end Go.Proofs.YtdijhifdjbnkfaaGreat.SG
namespace Go.Proofs.YtdijhifdjbnkfaaGreat.GM
open Go
open Go.Proofs.YtdijhifdjbnkfaaGreat.EM (Tr posOf)
open Go.Proofs.YtdijhifdjbnkfaaGreat.PM (Post)
open Go.Proofs.YtdijhifdjbnkfaaGreat.DM (Ent)
open Go.Proofs.YtdijhifdjbnkfaaGreat.DT (findD)
theorem postsG_cons (r:Tr Post) (rows:List (Tr Post)):postsG (r::rows)=PM.encL r.2++postsG rows:=by simp [postsG]
theorem ents_find:∀ (rows:List (Tr Post)) (off:Int) (u:List UInt8),(findD (entsG off rows) u=none∧posOf rows u=[]) ∨
  ∃ (k:Nat) (hk:k<rows.length),findD (entsG off rows) u=some (u,(off+((postsG (rows.take k)).length:Int),(((PM.encL rows[k].2).length:Int),(rows[k].2.length:Int))))∧posOf rows u=rows[k].2∧rows[k].1=u
 | [],off,u=>.inl ⟨rfl,rfl⟩
 | r::rows,off,u=>by
   by_cases h:r.1=u
   ·refine .inr ⟨0,by simp,?_,?_,h⟩
    ·unfold findD
     rw [entsG,List.find?_cons]
     simp [h,postsG]
    ·rw [posOf,if_pos h];rfl
   ·have e:findD (entsG off (r::rows)) u=findD (entsG (off+((PM.encL r.2).length:Int)) rows) u:=by
     unfold findD
     rw [entsG,List.find?_cons]
     simp [h]
    rw [e,posOf,if_neg h]
    rcases ents_find rows (off+((PM.encL r.2).length:Int)) u with h1 | ⟨k,hk,h1,h2,h3⟩
    ·exact .inl h1
    ·refine .inr ⟨k+1,by simpa using hk,?_,h2,h3⟩
     rw [h1,List.take_succ_cons,postsG_cons,List.length_append]
     simp only [List.getElem_cons_succ,Option.some.injEq,Prod.mk.injEq,true_and,and_true]
     omega
theorem posts_piece {rows:List (Tr Post)} {k:Nat} (hk:k<rows.length):((postsG rows).drop (postsG (rows.take k)).length).take (PM.encL rows[k].2).length=PM.encL rows[k].2∧(postsG (rows.take k)).length+(PM.encL rows[k].2).length≤(postsG rows).length:=by
 have e:postsG rows=postsG (rows.take k)++(PM.encL rows[k].2++postsG (rows.drop (k+1))):=by
  rw [← postsG_cons,← List.drop_eq_getElem_cons hk]
  unfold postsG
  rw [← List.flatMap_append,List.take_append_drop]
 constructor
 ·rw [e,List.drop_left,List.take_left]
 ·have h:=congrArg List.length e
  simp only [List.length_append] at h
  omega
end Go.Proofs.YtdijhifdjbnkfaaGreat.GM
