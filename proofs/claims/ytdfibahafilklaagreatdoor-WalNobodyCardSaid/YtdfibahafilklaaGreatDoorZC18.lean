import Derived.Test.YtdfibahafilklaaGreatDoorZC15
import Derived.Laws.Cover3
set_option maxRecDepth 100000
set_option maxHeartbeats 8000000
set_option linter.unusedVariables false
set_option linter.unusedSimpArgs false
namespace Go.Proofs.YtdfibahafilklaaGreatDoor.DK
open Go.RowKit MM Go.Maps
def tabF (L:List FileD) (V:List UInt8→Value) (n:List UInt8):Option Value:=(findL L n).map (fun f=>fileCV (V n) f.sure)
structure Tab (S:Nat→Prop) (w:World) (mb:Nat) (V:List UInt8→Value) (L:List FileD):Prop where
 map:MapV w mb L.length (tabF L V)
 own:∀ f∈L,OwnB 0 w (V f.name) f.b
 apart:∀ f∈L,∀ g∈L,f.name≠g.name→∀ k,(V f.name).ownBlock=some k→(V g.name).ownBlock≠some k
 inS:∀ f∈L,∀ k,(V f.name).ownBlock=some k→S k
 mS:S mb
structure CObj (S:Nat→Prop) (w:World) (g mb:Nat) (V:List UInt8→Value) (c:Int) (d:DiskD):Prop where
 obj:w.heap[g]? = some (.cells #[.map (some mb),.int .i64 d.quota,.int .i64 c,.bool d.stopped] 111 (0,0))
 armed:d.armed=max 0 c
 c0 : -9223372036854775808≤c
 c1:c≤9223372036854775807
 tab:Tab S w mb V d.L
 gS:S g
 lt:∀ k,S k→k<w.heap.size
theorem OwnB.kepB {S:Nat→Prop} {w w':World} {B:Nat} {v:Value} {l:List UInt8} (h:OwnB B w v l) (hk:Kep S w w') (hS:∀ k,v.ownBlock=some k→S k):OwnB B w' v l:=by
 refine ⟨h.1,?_⟩
 rcases h.2 with h0 | ⟨g,cap,cur,hv,hg,hh,rest⟩
 ·exact .inl h0
 ·refine .inr ⟨g,cap,cur,hv,hg,?_,rest⟩
  rw [hk.block g (Array.getElem?_eq_some_iff.1 hh).1 (hS g (by rw [hv];rfl))]
  exact hh
theorem Tab.kep {S T:Nat→Prop} {w w':World} {mb:Nat} {V:List UInt8→Value} {L:List FileD} (h:Tab S w mb V L) (hk:Kep T w w') (hT:∀ k,S k→T k):Tab S w' mb V L :=
 ⟨h.map.kep hk (hT _ h.mS),fun f hf=>OwnB.kepB (h.own f hf) hk (fun k hk=>hT k (h.inS f hf k hk)),h.apart,h.inS,h.mS⟩
theorem Tab.grow {S T:Nat→Prop} {w:World} {mb:Nat} {V:List UInt8→Value} {L:List FileD} (h:Tab S w mb V L) (hT:∀ k,S k→T k):Tab T w mb V L :=
 ⟨h.map,h.own,h.apart,fun f hf k hk=>hT k (h.inS f hf k hk),hT _ h.mS⟩
theorem CObj.kep {S T:Nat→Prop} {w w':World} {g mb:Nat} {V:List UInt8→Value} {c:Int} {d:DiskD} (h:CObj S w g mb V c d) (hk:Kep T w w') (hT:∀ k,S k→T k):CObj S w' g mb V c d :=
 ⟨(hk.block g (h.lt g h.gS) (hT g h.gS)).trans h.obj,h.armed,h.c0,h.c1,h.tab.kep hk hT,h.gS,fun k hS=>Nat.lt_of_lt_of_le (h.lt k hS) hk.size⟩
theorem CObj.below {S:Nat→Prop} {w w':World} {g mb:Nat} {V:List UInt8→Value} {c:Int} {d:DiskD} (h:CObj S w g mb V c d) (hb:Below w.heap.size w w'):CObj S w' g mb V c d:=h.kep (kep_below (fun _=>True) hb) (fun _ _=>trivial)
section
variable {S : Nat → Prop} {w : World} {g mb : Nat} {V : List UInt8 → Value} {c : Int} {d : DiskD} (h : CObj S w g mb V c d)
include h
theorem CObj.g0:w.cell? ⟨g,0,none⟩=some (.map (some mb)):=by rw [cell_of_row w g 0 _ _ _ h.obj];rfl
theorem CObj.g1:w.cell? ⟨g,1,none⟩=some (.int .i64 d.quota):=by rw [cell_of_row w g 1 _ _ _ h.obj];rfl
theorem CObj.g2:w.cell? ⟨g,2,none⟩=some (.int .i64 c):=by rw [cell_of_row w g 2 _ _ _ h.obj];rfl
theorem CObj.g3:w.cell? ⟨g,3,none⟩=some (.bool d.stopped):=by rw [cell_of_row w g 3 _ _ _ h.obj];rfl
theorem CObj.free (i:Nat):w.frozen? ⟨g,i,none⟩=false:=frozen_of_row w g i _ _ h.obj
theorem CObj.mlt:mb<w.heap.size:=h.tab.map.lt
theorem CObj.glt:g<w.heap.size:=h.lt g h.gS
theorem CObj.gm:g≠mb:=fun e=>by
 obtain ⟨es,k,hm⟩:=h.tab.map.obj
 have ho:=h.obj
 rw [e,hm] at ho
 exact Obj.noConfusion (Option.some.inj ho)
theorem CObj.row {v:Value} {l:List UInt8} (hv:OwnB 0 w v l) {k:Nat} (hk:v.ownBlock=some k):k≠g∧k≠mb:=by
 rcases hv.2 with ⟨rfl,_⟩ | ⟨b,cap,cur,rfl,_,hh,_⟩
 ·cases hk
 ·obtain rfl:b=k:=Option.some.inj hk
  refine ⟨fun e => ?_,fun e => ?_⟩
  ·have ho:=h.obj
   rw [← e,hh] at ho
   have:=Option.some.inj ho
   simp at this
  ·obtain ⟨es,j,hm⟩:=h.tab.map.obj
   rw [← e,hh] at hm
   exact Obj.noConfusion (Option.some.inj hm)
end
theorem CObj.set {S:Nat→Prop} {w:World} {g mb:Nat} {V:List UInt8→Value} {c:Int} {d:DiskD} (h:CObj S w g mb V c d) {w':World} (hk:Kep (fun k=>k≠g) w w') {c':Int} {d':DiskD}
  (ho:w'.heap[g]? = some (.cells #[.map (some mb),.int .i64 d'.quota,.int .i64 c',.bool d'.stopped] 111 (0,0))) (hL:d'.L=d.L) (ha:d'.armed=max 0 c') (h0 : -9223372036854775808≤c') (h1:c'≤9223372036854775807):CObj S w' g mb V c' d':=by
 refine ⟨ho,ha,h0,h1,?_,h.gS,fun k hS=>Nat.lt_of_lt_of_le (h.lt k hS) hk.size⟩
 rw [hL]
 refine ⟨h.tab.map.kep hk (fun e=>h.gm e.symm),fun f hf=>OwnB.kepB (h.tab.own f hf) hk (fun k hk e=>(h.row (h.tab.own f hf) hk).1 e),h.tab.apart,h.tab.inS,h.tab.mS⟩
theorem CObj.cell_set {S:Nat→Prop} {w:World} {g mb:Nat} {V:List UInt8→Value} {c:Int} {d:DiskD} (h:CObj S w g mb V c d) (i:Nat) (u:Value):Kep (fun k=>k≠g) w (w.setCell ⟨g,i,none⟩ u):=kep_set (fun k=>k rfl) u
theorem Tab.put {S T:Nat→Prop} {w w':World} {mb:Nat} {V:List UInt8→Value} {L:List FileD} (hr:Rise L) (h:Tab S w mb V L) (n:List UInt8) (f':FileD) (v':Value) (hn:f'.name=n)
  (hk:Kep (fun k=>k≠mb∧(∀ f,findL L n=some f→(V n).ownBlock≠some k)) w w')
  (hm:MapV w' mb (if (tabF L V n).isSome then L.length else L.length+1) (fun k=>if k=n then some (fileCV v' f'.sure) else tabF L V k)) (ho:OwnB 0 w' v' f'.b)
  (hrow:∀ k,v'.ownBlock=some k→(∃ f,findL L n=some f∧(V n).ownBlock=some k)∨w.heap.size≤k∧T k) (hT:∀ k,S k→T k) (hlt:∀ k,S k→k<w.heap.size)
  (hrows:∀ f∈L,∀ k,(V f.name).ownBlock=some k→k≠mb) :
  Tab T w' mb (fun k=>if k=n then v' else V k) (withL L f'):=by
 have hfind:∀ k,findL (withL L f') k=if k=n then some f' else findL L k:=fun k=>by
  rw [find_with,hn]
 have hlen:(withL L f').length=if (tabF L V n).isSome then L.length else L.length+1:=by
  rw [len_with f' hr,hn]
  unfold tabF
  rw [Option.isSome_map]
 have hmem:∀ f∈withL L f',f=f'∨(f∈L∧f.name≠n):=fun f hf=>by
  rcases mem_insL.1 hf with h | h
  ·exact .inl h
  ·obtain ⟨h1,h2⟩:=List.mem_filter.1 h
   exact .inr ⟨h1,by rw [← hn];simpa using h2⟩
 have hother:∀ f∈L,f.name≠n→∀ k,(V f.name).ownBlock=some k→k≠mb∧(∀ f,findL L n=some f→(V n).ownBlock≠some k):=fun f hf hne k hk'=>by
  refine ⟨hrows f hf k hk',fun x hx e => ?_⟩
  have hx2:=find_mem hx
  have:=h.apart f hf x hx2.1 (by rw [hx2.2];exact hne) k hk'
  rw [hx2.2] at this
  exact this e
 refine ⟨?_,fun f hf => ?_,fun f hf x hx hne k hk' => ?_,fun f hf k hk' => ?_,hT _ h.mS⟩
 ·rw [hlen]
  obtain ⟨D,h1,h2,h3⟩:=hm
  refine ⟨D,h1,h2,fun k => ?_⟩
  have:=h3 k
  have e:tabF (withL L f') (fun k=>if k=n then v' else V k) k=(if k=n then some (fileCV v' f'.sure) else tabF L V k):=by
   unfold tabF
   rw [hfind k]
   by_cases e:k=n<;>simp [e]
  rw [e]
  exact this
 ·rcases hmem f hf with rfl | ⟨hfL,hfn⟩
  ·rw [hn,if_pos rfl]
   exact ho
  ·rw [if_neg hfn]
   exact OwnB.kepB (h.own f hfL) hk (fun k hk'=>hother f hfL hfn k hk')
 ·rcases hmem f hf with rfl | ⟨hfL,hfn⟩
  ·rcases hmem x hx with rfl | ⟨hxL,hxn⟩
   ·exact absurd rfl hne
   ·rw [hn,if_pos rfl] at hk'
    rw [if_neg hxn]
    intro hx'
    rcases hrow k hk' with ⟨y,hy,hyk⟩ | ⟨hge,_⟩
    ·exact (hother x hxL hxn k hx').2 y hy hyk
    ·exact absurd (hlt k (h.inS x hxL k hx')) (by omega)
  ·rw [if_neg hfn] at hk'
   rcases hmem x hx with rfl | ⟨hxL,hxn⟩
   ·rw [hn,if_pos rfl]
    intro hx'
    rcases hrow k hx' with ⟨y,hy,hyk⟩ | ⟨hge,_⟩
    ·exact (hother f hfL hfn k hk').2 y hy hyk
    ·exact absurd (hlt k (h.inS f hfL k hk')) (by omega)
   ·rw [if_neg hxn]
    exact h.apart f hfL x hxL hne k hk'
 ·rcases hmem f hf with rfl | ⟨hfL,hfn⟩
  ·rw [hn,if_pos rfl] at hk'
   rcases hrow k hk' with ⟨y,hy,hyk⟩ | ⟨_,hk''⟩
   ·have hy2:=find_mem hy
    exact hT k (h.inS y hy2.1 k (by rw [hy2.2];exact hyk))
   ·exact hk''
  ·rw [if_neg hfn] at hk'
   exact hT k (h.inS f hfL k hk')
theorem Tab.take {S:Nat→Prop} {w w':World} {mb:Nat} {V:List UInt8→Value} {L:List FileD} (hr:Rise L) (h:Tab S w mb V L) (n:List UInt8) (hk:Kep (fun k=>k≠mb) w w')
  (hm:MapV w' mb (if (tabF L V n).isSome then L.length - 1 else L.length) (fun k=>if k=n then none else tabF L V k)) (hrows:∀ f∈L,∀ k,(V f.name).ownBlock=some k→k≠mb):Tab S w' mb V (withoutL L n):=by
 have hmem:∀ f∈withoutL L n,f∈L:=fun f hf=>(List.mem_filter.1 hf).1
 refine ⟨?_,fun f hf=>OwnB.kepB (h.own f (hmem f hf)) hk (hrows f (hmem f hf)),fun f hf x hx=>h.apart f (hmem f hf) x (hmem x hx),fun f hf=>h.inS f (hmem f hf),h.mS⟩
 have e:(withoutL L n).length=if (tabF L V n).isSome then L.length - 1 else L.length:=by
  rw [len_without hr]
  unfold tabF
  rw [Option.isSome_map]
 rw [e]
 obtain ⟨D,h1,h2,h3⟩:=hm
 refine ⟨D,h1,h2,fun k => ?_⟩
 have:=h3 k
 have e:tabF (withoutL L n) V k=(if k=n then none else tabF L V k):=by
  unfold tabF
  rw [find_without]
  by_cases e:k=n<;>simp [e]
 rw [e]
 exact this
end Go.Proofs.YtdfibahafilklaaGreatDoor.DK
