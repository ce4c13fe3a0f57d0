import Derived.Test.YtdfibahafilklaaGreatDoorZC5
import Derived.Maps.AppendAt
import Derived.Maps.RangeWalk
set_option maxRecDepth 100000
set_option maxHeartbeats 8000000
set_option linter.unusedVariables false
set_option linter.unusedSimpArgs false
namespace Go.Proofs.YtdfibahafilklaaGreatDoor.DK
open Go.RowKit MM Go.Maps
abbrev R0:Value→Option (DataW Value×List MemPlace):=fun v=>some (.held v,[])
theorem strKeyed:Keyed Tryz.prog 9:=string_keyed Tryz.underlying9
def fileCV (v:Value) (s:Nat):Value:=.agg #[v,.int .i64 (s:Int)]
def zeroFile:Value:=.agg #[.slice none 0 0,.int .i64 0]
theorem zeroF (w:World):(zeroValue 127).run Tryz.prog w=.ok zeroFile w:=by kernel_rfl
def MapV (w:World) (mb m:Nat) (F:List UInt8→Option Value):Prop :=
 ∃ D:DataW Value,w.ownsMap Tryz.prog 9 R0 mb m D∧Maps.size D=m∧∀ n,Maps.has D (.string n)=(F n).isSome∧∀ v,F n=some v→∀ z,D.atKey (.string n) z=.held v
theorem keyS (n:List UInt8) (hn:n.length≤maxLen):keyOf Tryz.prog 9 (.string ⟨n.toArray⟩)=some (.string n):=Go.WideMaps.keyOf_string_mk (s:=⟨n.toArray⟩) Tryz.underlying9 (by rw [Lib.size_eq];exact hn)
theorem MapV.lt {w:World} {mb m:Nat} {F:List UInt8→Option Value} (h:MapV w mb m F):mb<w.heap.size:=by
 obtain ⟨D,hD,_⟩:=h
 exact hD.lt
theorem owns_kep {S:Nat→Prop} {w w':World} {R:Value→Option (DataW Value×List MemPlace)} {mb m:Nat} {D:DataW Value} (h:w.ownsMap Tryz.prog 9 R mb m D) (hk:Kep S w w') (hS:S mb):w'.ownsMap Tryz.prog 9 R mb m D:=by
 have hlt:=h.lt
 obtain ⟨es,clock,hb,F,hs,hD⟩:=h
 exact ⟨es,clock,(hk.block mb hlt hS).trans hb,F,hs,hD⟩
theorem MapV.kep {S:Nat→Prop} {w w':World} {mb m:Nat} {F:List UInt8→Option Value} (h:MapV w mb m F) (hk:Kep S w w') (hS:S mb):MapV w' mb m F:=by
 obtain ⟨D,hD,h2⟩:=h
 exact ⟨D,owns_kep hD hk hS,h2⟩
theorem MapV.below {w w':World} {mb m:Nat} {F:List UInt8→Option Value} (h:MapV w mb m F) (hb:Below w.heap.size w w'):MapV w' mb m F:=h.kep (kep_below (fun _=>True) hb) trivial
theorem MapV.made (w:World):MapV (w.alloc (.map #[] 0)) w.heap.size 0 (fun _=>none) :=
 ⟨.map [],World.ownsMap_made _ _ _ _,rfl,fun n=>⟨rfl,fun v h=>by cases h⟩⟩
theorem MapV.obj {w:World} {mb m:Nat} {F:List UInt8→Option Value} (h:MapV w mb m F):∃ es c,w.heap[mb]? = some (.map es c):=by
 obtain ⟨D,⟨es,c,hb,_⟩,_⟩:=h
 exact ⟨es,c,hb⟩
theorem MapV.look_ok {w:World} {mb m:Nat} {F:List UInt8→Option Value} (h:MapV w mb m F) (n:List UInt8) (hn:n.length≤maxLen) :
  (Instr.lookup 109 (.map (some mb)) (.string ⟨n.toArray⟩) true).run Tryz.prog w=.ok (.tuple #[(F n).getD zeroFile,.bool (F n).isSome]) w:=by
 obtain ⟨D,hD,_,hF⟩:=h
 obtain ⟨v,ps,hrun,hv⟩:=World.ownsMap.look_ok hD strKeyed Tryz.underlying109 (zeroF w) (zd:=.held zeroFile) (zp:=[]) rfl (keyS n hn)
 obtain ⟨h1,h2⟩:=hF n
 have hv:DataW.held v=D.atKey (.string n) (.held zeroFile):=by
  simp only [R0,Option.some.injEq,Prod.mk.injEq] at hv
  exact hv.1
 rw [hrun,h1]
 cases hf:F n with
 | none =>
   rw [hf] at h1
   rw [atKey_of_not_has h1] at hv
   have hv:=DataW.held.inj hv
   rw [hv]
   rfl
 | some u =>
   rw [h2 u hf] at hv
   have hv:=DataW.held.inj hv
   rw [hv]
   rfl
theorem MapV.len {w:World} {mb m:Nat} {F:List UInt8→Option Value} (h:MapV w mb m F) (ty:TypeId):(Builtin.len_ #[109] ty #[.map (some mb)]).run Tryz.prog w=.ok (.int .i64 (m:Int)) w:=by
 obtain ⟨D,hD,hm,_⟩:=h
 have:=hD.len Tryz.underlying109 ty
 rw [hm] at this
 exact this
theorem own_tight {w:World} {mb m:Nat} {D:DataW Value} (h:w.ownsMap Tryz.prog 9 R0 mb m D):w.ownsMap Tryz.prog 9 R0 mb (Maps.size D) D:=by
 obtain ⟨es,c,hb,F,hs,rfl⟩:=h
 exact ⟨es,c,hb,F,by simp [Maps.size,length_sorted],rfl⟩
theorem key_ne {n k:List UInt8} (h:n≠k):(Lit.string n)≠Lit.string k:=fun e=>h (by injection e)
theorem MapV.put_of {w':World} {mb m j:Nat} {F:List UInt8→Option Value} {D:DataW Value} {n:List UInt8} {v:Value} (hT:Tidy D) (hm:Maps.size D=m) (hF:∀ n,Maps.has D (.string n)=(F n).isSome∧∀ v,F n=some v→∀ z,D.atKey (.string n) z=.held v)
  (h:w'.ownsMap Tryz.prog 9 R0 mb j (D.put (.string n) (.held v))):MapV w' mb (if (F n).isSome then m else m+1) (fun k=>if k=n then some v else F k):=by
 have hk:WideAt.IsKeyLit (.string n):=trivial
 have hs:Maps.size (D.put (.string n) (.held v))=if (F n).isSome then m else m+1:=by rw [size_put hT,(hF n).1,hm]
 refine ⟨_,hs▸own_tight h,hs,fun k => ?_⟩
 show Maps.has (D.put (.string n) (.held v)) (.string k)=(if k=n then some v else F k).isSome∧∀ u,(if k=n then some v else F k)=some u→∀ z,(D.put (.string n) (.held v)).atKey (.string k) z=.held u
 by_cases e:k=n
 ·subst e
  rw [has_put_same hT.isMap hk]
  refine ⟨by simp,fun u hu z => ?_⟩
  rw [if_pos rfl] at hu
  have hu:=Option.some.inj hu
  rw [atKey_put_same hT.isMap hk,hu]
 ·rw [has_put_other (key_ne e),if_neg e]
  refine ⟨(hF k).1,fun u hu z => ?_⟩
  rw [atKey_put_other (key_ne e)]
  exact (hF k).2 u hu z
theorem turned_kep {w w':World} {mb:Nat} (h:w.mapTurned w' mb):Kep (fun k=>k≠mb) w w':=kep_grown h.grown (fun k e hk=>hk (by injection e with e;exact e.symm))
theorem MapV.store {w:World} {mb m:Nat} {F:List UInt8→Option Value} (h:MapV w mb m F) (n:List UInt8) (v:Value) (hn:n.length≤maxLen) (hm:m<maxLen) :
  ∃ w',(Instr.mapUpdate 109 (.map (some mb)) (.string ⟨n.toArray⟩) v).run Tryz.prog w=.ok () w'∧MapV w' mb (if (F n).isSome then m else m+1) (fun k=>if k=n then some v else F k)∧Kep (fun k=>k≠mb) w w':=by
 obtain ⟨D,hD,hs,hF⟩:=h
 obtain ⟨w',hrun,h1,h2⟩:=World.ownsMap.store hD strKeyed Tryz.underlying109 hm (keyS n hn) (val:=v) (d:=.held v) (ps:=[]) rfl
 exact ⟨w',hrun,MapV.put_of (hD.tidy strKeyed) hs hF h1,turned_kep h2⟩
theorem MapV.drop {w:World} {mb m:Nat} {F:List UInt8→Option Value} (h:MapV w mb m F) (n:List UInt8) (hn:n.length≤maxLen) (ty:TypeId) :
  ∃ w',(Builtin.delete_ #[109,9] ty #[.map (some mb),.string ⟨n.toArray⟩]).run Tryz.prog w=.ok (.tuple #[]) w'∧MapV w' mb (if (F n).isSome then m - 1 else m) (fun k=>if k=n then none else F k)∧Kep (fun k=>k≠mb) w w':=by
 obtain ⟨D,hD,hs,hF⟩:=h
 obtain ⟨w',hrun,h1,h2⟩:=World.ownsMap.drop hD strKeyed Tryz.underlying109 (keyS n hn) ty
 have hT:=hD.tidy strKeyed
 have hz:Maps.size (D.del (.string n))=if (F n).isSome then m - 1 else m:=by
  have:=size_del (k:=.string n) hT
  rw [(hF n).1,hs] at this
  cases hf:(F n).isSome<;>rw [hf] at this<;>simp at this ⊢<;>omega
 refine ⟨w',hrun,⟨_,hz▸own_tight h1,hz,fun k => ?_⟩,turned_kep h2⟩
 show Maps.has (D.del (.string n)) (.string k)=(if k=n then none else F k).isSome∧∀ u,(if k=n then none else F k)=some u→∀ z,(D.del (.string n)).atKey (.string k) z=.held u
 by_cases e:k=n
 ·subst e
  rw [has_del_same,if_pos rfl]
  exact ⟨rfl,fun u hu=>by cases hu⟩
 ·rw [has_del_other (key_ne e),if_neg e]
  refine ⟨(hF k).1,fun u hu z => ?_⟩
  rw [atKey_del_other (key_ne e)]
  exact (hF k).2 u hu z
theorem wp_mapV_store {w:World} {o:Oper} {a:Act} {K:Act→World→Prop} {Q:Exit→Act→World→Prop} (x y z:Operand) (hop:o.op=Op.mapUpdate 109 x y z) (mb m:Nat) (F:List UInt8→Option Value) (hx:a.eval x=.map (some mb)) (h:MapV w mb m F) (hm:m<maxLen)
  (n:List UInt8) (v:Value) (hy:a.eval y=.string ⟨n.toArray⟩) (hz:a.eval z=v) (hn:n.length≤maxLen)
  (hK:∀ w',MapV w' mb (if (F n).isSome then m else m+1) (fun k=>if k=n then some v else F k)→Kep (fun k=>k≠mb) w w'→K (a.put o.dst undef) w'):o.wp Tryz.prog a w K Q:=by
 obtain ⟨w',hrun,h1,h2⟩:=h.store n v hn hm
 unfold Oper.wp
 simp [execOp,hop,hx,hy,hz,hrun,Result.andThen]
 exact hK w' h1 h2
theorem types_alike (ty:TypeId) (args:Array Value) (w:World):(Builtin.append_ #[125,31] ty args).run Tryz.prog w=(Builtin.append_ #[125,125] ty args).run Tryz.prog w:=by
 obtain ⟨i0,hi,hz0,hz1,hz2⟩:=info_parts infoByte
 unfold Builtin.append_
 rcases h0:args[0]? with _ | s
 ·simp
 rcases h1:args[1]? with _ | x
 ·simp
 cases s<;>simp [run_underlying Tryz.underlying125,run_underlying Tryz.underlying31,sizeOf,typeInfo,hi]
theorem run_append_content {w:World} {v src:Value} {l m:List UInt8} (ty:TypeId) (hown:OwnB 0 w v l) (hr:BRow w src m) (hlen:l.length+m.length≤140737488355328) :
  ∃ v' w',(Builtin.append_ #[125,31] ty #[v,src]).run Tryz.prog w=.ok v' w'∧OwnB 0 w' v' (l++m)∧w.grownBy w' v.ownBlock∧(v'.ownBlock=v.ownBlock∨v'.ownBlock=some w.heap.size):=by
 obtain ⟨i0,hi,hz0,hz1,hz2⟩:=info_parts infoByte
 rw [types_alike]
 obtain ⟨p,cap,rfl,hlc,hcm,h3,hc⟩:=hr
 cases p with
 | none =>
   have h0:=h3 rfl
   subst h0
   have hm:m=[]:=by
    rcases hc with hc | ⟨b,off,hp,_⟩
    ·have:=byteCells_len m;rw [hc] at this;exact List.eq_nil_of_length_eq_zero (by simpa using this.symm)
    ·cases hp
   subst hm
   refine ⟨v,w,run_append_owned_none w 0 125 ty 5 i0 1 Tryz.underlying125 hi v l.length _ hown,by rw [List.append_nil];exact hown,⟨rfl,rfl,rfl,Nat.le_refl _,fun _ _ _=>rfl⟩,.inl rfl⟩
 | some ad =>
   obtain ⟨v',w',hrun,h1,h2,_,h4⟩:=run_append_own_at (P:=Tryz.prog) w 0 125 ty 5 i0 (.int .u8 0) 1 1 Tryz.underlying125 hi hz0 hz1 hz2 rfl (by decide) v l.length _ hown ad (Lib.byteCells m).length cap (Lib.byteCells m) (by simp)
    (fun j u hj=>by
     rcases hc with hc | ⟨b,off,hp,_,hc⟩
     ·rw [hc] at hj;simp at hj
     ·obtain rfl:ad=⟨b,off,none⟩:=Option.some.inj hp
      rw [add_at]
      exact hc j u hj)
    (byteCells_one m) (by rw [byteCells_len];unfold maxLen;omega) (by rw [byteCells_len];omega) (Nat.zero_le _)
   refine ⟨v',w',hrun,?_,h2,h4⟩
   unfold OwnB
   rw [List.length_append,byteCells_append]
   rw [byteCells_len] at h1
   exact h1
end Go.Proofs.YtdfibahafilklaaGreatDoor.DK
