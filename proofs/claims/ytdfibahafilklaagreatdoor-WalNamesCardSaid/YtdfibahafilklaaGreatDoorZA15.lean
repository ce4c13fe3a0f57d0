import Derived.Maps.AppendAt
import Derived.Maps.RangeWalk
import Derived.Test.YtdfibahafilklaaGreatDoorZA14
set_option maxRecDepth 100000
set_option maxHeartbeats 8000000
set_option linter.unusedVariables false
set_option linter.unusedSimpArgs false
namespace Go.Proofs.YtdfibahafilklaaGreatDoor.DK
open Go.RowKit MM Go.Maps
abbrev R0:Value→Option (DataW Value×List MemPlace):=fun v=>some (.held v,[])
theorem strKeyed:Keyed Tryz.prog 9:=string_keyed Tryz.underlying9
def fileCV (v:Value) (s:Nat):Value:=.agg #[v,.int .i64 (s:Int)]
def zeroFile:Value:=.agg #[.slice none 0 0,.int .i64 0]
theorem zeroF (w:World):(zeroValue 127).run Tryz.prog w=.ok zeroFile w:=by kernel_rfl
def MapV (w:World) (mb m:Nat) (F:List UInt8→Option Value):Prop :=
 ∃ D:DataW Value,w.ownsMap Tryz.prog 9 R0 mb m D∧Maps.size D=m∧∀ n,Maps.has D (.string n)=(F n).isSome∧∀ v,F n=some v→∀ z,D.atKey (.string n) z=.held v
theorem keyS (n:List UInt8) (hn:n.length≤maxLen):keyOf Tryz.prog 9 (.string ⟨n.toArray⟩)=some (.string n):=Go.WideMaps.keyOf_string_mk (s:=⟨n.toArray⟩) Tryz.underlying9 (by rw [Lib.size_eq];exact hn)
theorem MapV.lt {w:World} {mb m:Nat} {F:List UInt8→Option Value} (h:MapV w mb m F):mb<w.heap.size:=by
 obtain ⟨D,hD,_⟩:=h
 exact hD.lt
theorem owns_kep {S:Nat→Prop} {w w':World} {R:Value→Option (DataW Value×List MemPlace)} {mb m:Nat} {D:DataW Value} (h:w.ownsMap Tryz.prog 9 R mb m D) (hk:Kep S w w') (hS:S mb):w'.ownsMap Tryz.prog 9 R mb m D:=by
 have hlt:=h.lt
 obtain ⟨es,clock,hb,F,hs,hD⟩:=h
 exact ⟨es,clock,(hk.block mb hlt hS).trans hb,F,hs,hD⟩
theorem MapV.kep {S:Nat→Prop} {w w':World} {mb m:Nat} {F:List UInt8→Option Value} (h:MapV w mb m F) (hk:Kep S w w') (hS:S mb):MapV w' mb m F:=by
 obtain ⟨D,hD,h2⟩:=h
 exact ⟨D,owns_kep hD hk hS,h2⟩
theorem MapV.below {w w':World} {mb m:Nat} {F:List UInt8→Option Value} (h:MapV w mb m F) (hb:Below w.heap.size w w'):MapV w' mb m F:=h.kep (kep_below (fun _=>True) hb) trivial
theorem MapV.made (w:World):MapV (w.alloc (.map #[] 0)) w.heap.size 0 (fun _=>none) :=
 ⟨.map [],World.ownsMap_made _ _ _ _,rfl,fun n=>⟨rfl,fun v h=>by cases h⟩⟩
theorem MapV.obj {w:World} {mb m:Nat} {F:List UInt8→Option Value} (h:MapV w mb m F):∃ es c,w.heap[mb]? = some (.map es c):=by
 obtain ⟨D,⟨es,c,hb,_⟩,_⟩:=h
 exact ⟨es,c,hb⟩
theorem MapV.look_ok {w:World} {mb m:Nat} {F:List UInt8→Option Value} (h:MapV w mb m F) (n:List UInt8) (hn:n.length≤maxLen) :
  (Instr.lookup 109 (.map (some mb)) (.string ⟨n.toArray⟩) true).run Tryz.prog w=.ok (.tuple #[(F n).getD zeroFile,.bool (F n).isSome]) w:=by
 obtain ⟨D,hD,_,hF⟩:=h
 obtain ⟨v,ps,hrun,hv⟩:=World.ownsMap.look_ok hD strKeyed Tryz.underlying109 (zeroF w) (zd:=.held zeroFile) (zp:=[]) rfl (keyS n hn)
 obtain ⟨h1,h2⟩:=hF n
 have hv:DataW.held v=D.atKey (.string n) (.held zeroFile):=by
  simp only [R0,Option.some.injEq,Prod.mk.injEq] at hv
  exact hv.1
 rw [hrun,h1]
 cases hf:F n with
 | none =>
   rw [hf] at h1
   rw [atKey_of_not_has h1] at hv
   have hv:=DataW.held.inj hv
   rw [hv]
   rfl
 | some u =>
   rw [h2 u hf] at hv
   have hv:=DataW.held.inj hv
   rw [hv]
   rfl
theorem MapV.len {w:World} {mb m:Nat} {F:List UInt8→Option Value} (h:MapV w mb m F) (ty:TypeId):(Builtin.len_ #[109] ty #[.map (some mb)]).run Tryz.prog w=.ok (.int .i64 (m:Int)) w:=by
 obtain ⟨D,hD,hm,_⟩:=h
 have:=hD.len Tryz.underlying109 ty
 rw [hm] at this
 exact this
theorem own_tight {w:World} {mb m:Nat} {D:DataW Value} (h:w.ownsMap Tryz.prog 9 R0 mb m D):w.ownsMap Tryz.prog 9 R0 mb (Maps.size D) D:=by
 obtain ⟨es,c,hb,F,hs,rfl⟩:=h
 exact ⟨es,c,hb,F,by simp [Maps.size,length_sorted],rfl⟩
theorem key_ne {n k:List UInt8} (h:n≠k):(Lit.string n)≠Lit.string k:=fun e=>h (by injection e)
theorem MapV.put_of {w':World} {mb m j:Nat} {F:List UInt8→Option Value} {D:DataW Value} {n:List UInt8} {v:Value} (hT:Tidy D) (hm:Maps.size D=m) (hF:∀ n,Maps.has D (.string n)=(F n).isSome∧∀ v,F n=some v→∀ z,D.atKey (.string n) z=.held v)
  (h:w'.ownsMap Tryz.prog 9 R0 mb j (D.put (.string n) (.held v))):MapV w' mb (if (F n).isSome then m else m+1) (fun k=>if k=n then some v else F k):=by
 have hk:WideAt.IsKeyLit (.string n):=trivial
 have hs:Maps.size (D.put (.string n) (.held v))=if (F n).isSome then m else m+1:=by rw [size_put hT,(hF n).1,hm]
 refine ⟨_,hs▸own_tight h,hs,fun k => ?_⟩
 show Maps.has (D.put (.string n) (.held v)) (.string k)=(if k=n then some v else F k).isSome∧∀ u,(if k=n then some v else F k)=some u→∀ z,(D.put (.string n) (.held v)).atKey (.string k) z=.held u
 by_cases e:k=n
 ·subst e
  rw [has_put_same hT.isMap hk]
  refine ⟨by simp,fun u hu z => ?_⟩
  rw [if_pos rfl] at hu
  have hu:=Option.some.inj hu
  rw [atKey_put_same hT.isMap hk,hu]
 ·rw [has_put_other (key_ne e),if_neg e]
  refine ⟨(hF k).1,fun u hu z => ?_⟩
  rw [atKey_put_other (key_ne e)]
  exact (hF k).2 u hu z
theorem turned_kep {w w':World} {mb:Nat} (h:w.mapTurned w' mb):Kep (fun k=>k≠mb) w w':=kep_grown h.grown (fun k e hk=>hk (by injection e with e;exact e.symm))
theorem MapV.store {w:World} {mb m:Nat} {F:List UInt8→Option Value} (h:MapV w mb m F) (n:List UInt8) (v:Value) (hn:n.length≤maxLen) (hm:m<maxLen) :
  ∃ w',(Instr.mapUpdate 109 (.map (some mb)) (.string ⟨n.toArray⟩) v).run Tryz.prog w=.ok () w'∧MapV w' mb (if (F n).isSome then m else m+1) (fun k=>if k=n then some v else F k)∧Kep (fun k=>k≠mb) w w':=by
 obtain ⟨D,hD,hs,hF⟩:=h
 obtain ⟨w',hrun,h1,h2⟩:=World.ownsMap.store hD strKeyed Tryz.underlying109 hm (keyS n hn) (val:=v) (d:=.held v) (ps:=[]) rfl
 exact ⟨w',hrun,MapV.put_of (hD.tidy strKeyed) hs hF h1,turned_kep h2⟩
theorem MapV.drop {w:World} {mb m:Nat} {F:List UInt8→Option Value} (h:MapV w mb m F) (n:List UInt8) (hn:n.length≤maxLen) (ty:TypeId) :
  ∃ w',(Builtin.delete_ #[109,9] ty #[.map (some mb),.string ⟨n.toArray⟩]).run Tryz.prog w=.ok (.tuple #[]) w'∧MapV w' mb (if (F n).isSome then m - 1 else m) (fun k=>if k=n then none else F k)∧Kep (fun k=>k≠mb) w w':=by
 obtain ⟨D,hD,hs,hF⟩:=h
 obtain ⟨w',hrun,h1,h2⟩:=World.ownsMap.drop hD strKeyed Tryz.underlying109 (keyS n hn) ty
 have hT:=hD.tidy strKeyed
 have hz:Maps.size (D.del (.string n))=if (F n).isSome then m - 1 else m:=by
  have:=size_del (k:=.string n) hT
  rw [(hF n).1,hs] at this
  cases hf:(F n).isSome<;>rw [hf] at this<;>simp at this ⊢<;>omega
 refine ⟨w',hrun,⟨_,hz▸own_tight h1,hz,fun k => ?_⟩,turned_kep h2⟩
 show Maps.has (D.del (.string n)) (.string k)=(if k=n then none else F k).isSome∧∀ u,(if k=n then none else F k)=some u→∀ z,(D.del (.string n)).atKey (.string k) z=.held u
 by_cases e:k=n
 ·subst e
  rw [has_del_same,if_pos rfl]
  exact ⟨rfl,fun u hu=>by cases hu⟩
 ·rw [has_del_other (key_ne e),if_neg e]
  refine ⟨(hF k).1,fun u hu z => ?_⟩
  rw [atKey_del_other (key_ne e)]
  exact (hF k).2 u hu z
theorem wp_mapV_store {w:World} {o:Oper} {a:Act} {K:Act→World→Prop} {Q:Exit→Act→World→Prop} (x y z:Operand) (hop:o.op=Op.mapUpdate 109 x y z) (mb m:Nat) (F:List UInt8→Option Value) (hx:a.eval x=.map (some mb)) (h:MapV w mb m F) (hm:m<maxLen)
  (n:List UInt8) (v:Value) (hy:a.eval y=.string ⟨n.toArray⟩) (hz:a.eval z=v) (hn:n.length≤maxLen)
  (hK:∀ w',MapV w' mb (if (F n).isSome then m else m+1) (fun k=>if k=n then some v else F k)→Kep (fun k=>k≠mb) w w'→K (a.put o.dst undef) w'):o.wp Tryz.prog a w K Q:=by
 obtain ⟨w',hrun,h1,h2⟩:=h.store n v hn hm
 unfold Oper.wp
 simp [execOp,hop,hx,hy,hz,hrun,Result.andThen]
 exact hK w' h1 h2
theorem types_alike (ty:TypeId) (args:Array Value) (w:World):(Builtin.append_ #[125,31] ty args).run Tryz.prog w=(Builtin.append_ #[125,125] ty args).run Tryz.prog w:=by
 obtain ⟨i0,hi,hz0,hz1,hz2⟩:=info_parts infoByte
 unfold Builtin.append_
 rcases h0:args[0]? with _ | s
 ·simp
 rcases h1:args[1]? with _ | x
 ·simp
 cases s<;>simp [run_underlying Tryz.underlying125,run_underlying Tryz.underlying31,sizeOf,typeInfo,hi]
theorem run_append_content {w:World} {v src:Value} {l m:List UInt8} (ty:TypeId) (hown:OwnB 0 w v l) (hr:BRow w src m) (hlen:l.length+m.length≤140737488355328) :
  ∃ v' w',(Builtin.append_ #[125,31] ty #[v,src]).run Tryz.prog w=.ok v' w'∧OwnB 0 w' v' (l++m)∧w.grownBy w' v.ownBlock∧(v'.ownBlock=v.ownBlock∨v'.ownBlock=some w.heap.size):=by
 obtain ⟨i0,hi,hz0,hz1,hz2⟩:=info_parts infoByte
 rw [types_alike]
 obtain ⟨p,cap,rfl,hlc,hcm,h3,hc⟩:=hr
 cases p with
 | none =>
   have h0:=h3 rfl
   subst h0
   have hm:m=[]:=by
    rcases hc with hc | ⟨b,off,hp,_⟩
    ·have:=byteCells_len m;rw [hc] at this;exact List.eq_nil_of_length_eq_zero (by simpa using this.symm)
    ·cases hp
   subst hm
   refine ⟨v,w,run_append_owned_none w 0 125 ty 5 i0 1 Tryz.underlying125 hi v l.length _ hown,by rw [List.append_nil];exact hown,⟨rfl,rfl,rfl,Nat.le_refl _,fun _ _ _=>rfl⟩,.inl rfl⟩
 | some ad =>
   obtain ⟨v',w',hrun,h1,h2,_,h4⟩:=run_append_own_at (P:=Tryz.prog) w 0 125 ty 5 i0 (.int .u8 0) 1 1 Tryz.underlying125 hi hz0 hz1 hz2 rfl (by decide) v l.length _ hown ad (Lib.byteCells m).length cap (Lib.byteCells m) (by simp)
    (fun j u hj=>by
     rcases hc with hc | ⟨b,off,hp,_,hc⟩
     ·rw [hc] at hj;simp at hj
     ·obtain rfl:ad=⟨b,off,none⟩:=Option.some.inj hp
      rw [add_at]
      exact hc j u hj)
    (byteCells_one m) (by rw [byteCells_len];unfold maxLen;omega) (by rw [byteCells_len];omega) (Nat.zero_le _)
   refine ⟨v',w',hrun,?_,h2,h4⟩
   unfold OwnB
   rw [List.length_append,byteCells_append]
   rw [byteCells_len] at h1
   exact h1
end Go.Proofs.YtdfibahafilklaaGreatDoor.DK
namespace Go.Proofs.YtdfibahafilklaaGreatDoor.DK
open Go.RowKit MM
variable {XB : Nat → Prop}
theorem str_index {s:ByteArray} {l:List UInt8} (hl:s.data.toList=l) {i:Nat} {c:UInt8} (hi:l[i]? = some c) (W:World):(Instr.index 9 (.string s) (.int .i64 (i:Int))).run Tryz.prog W=.ok (.int .u8 (c.toNat:Int)) W:=by
 obtain ⟨hlt,he⟩:=List.getElem?_eq_some_iff.1 hi
 have hsz:s.size=l.length:=by rw [Lib.size_eq,hl]
 rw [run_index_string W 9 s .i64 i Tryz.underlying9,dif_pos ⟨by omega,by omega⟩]
 subst hl
 have e:(s[(i:Int).toNat]'(by omega))=c:=by
  rw [← he]
  simp only [Int.toNat_natCast]
  rfl
 rw [e]
theorem str_size {s:ByteArray} {l:List UInt8} (hl:s.data.toList=l):s.size=l.length:=by rw [Lib.size_eq,hl]
def okCode (c:Nat):Bool:=(decide (97≤c)&&decide (c≤122))||(decide (48≤c)&&decide (c≤57))||decide (c=45)||decide (c=46)
theorem eq_code (c k:UInt8):(c == k)=decide (c.toNat=k.toNat):=by
 by_cases h:c=k
 ·subst h;rw [beq_self_eq_true];exact (decide_eq_true rfl).symm
 ·have:¬ c.toNat=k.toNat:=fun q=>h (UInt8.toNat_inj.1 q)
  rw [beq_eq_false_iff_ne.2 h,decide_eq_false this]
theorem charOk_code (c:UInt8):charOk c=okCode c.toNat:=by
 unfold charOk okCode
 rw [eq_code c 45,eq_code c 46]
 rfl
theorem okCode_int (c:Nat):okCode c=(((decide ((c:Int)≥97)&&decide ((c:Int)≤122))||(decide ((c:Int)≥48)&&decide ((c:Int)≤57)))||((c:Int) == 45)||((c:Int) == 46)):=by
 have e:∀ k:Nat,((c:Int) == (k:Int))=decide (c=k):=fun k=>by
  by_cases h:c=k
  ·subst h;rw [beq_self_eq_true];exact (decide_eq_true rfl).symm
  ·rw [beq_eq_false_iff_ne.2 (by omega),decide_eq_false h]
 have e1:((c:Int) == 45)=decide (c=45):=e 45
 have e2:((c:Int) == 46)=decide (c=46):=e 46
 unfold okCode
 rw [e1,e2,decide_eq_decide.2 (show 97≤c↔(c:Int)≥97 by omega),decide_eq_decide.2 (show c≤122↔(c:Int)≤122 by omega),decide_eq_decide.2 (show 48≤c↔(c:Int)≥48 by omega),decide_eq_decide.2 (show c≤57↔(c:Int)≤57 by omega)]
theorem drop_all {l:List UInt8} {i:Nat} {c:UInt8} (hi:l[i]? = some c):(l.drop i).all charOk=(okCode c.toNat&&(l.drop (i+1)).all charOk):=by
 obtain ⟨hlt,he⟩:=List.getElem?_eq_some_iff.1 hi
 rw [List.drop_eq_getElem_cons hlt,List.all_cons,he,charOk_code]
def BoxAt (w:World) (g:Nat) (L:Value) (d:DiskD):Prop:=w.heap[g]? = some (.cells #[L,.int .i64 d.quota,.int .i64 d.armed,.bool d.stopped] 45 (0,0))
theorem BoxAt.armed {w:World} {g:Nat} {L:Value} {d:DiskD} (h:BoxAt w g L d):w.cell? ⟨g,2,none⟩=some (.int .i64 d.armed):=by rw [cell_of_row w g 2 _ _ _ h];rfl
theorem BoxAt.stopped {w:World} {g:Nat} {L:Value} {d:DiskD} (h:BoxAt w g L d):w.cell? ⟨g,3,none⟩=some (.bool d.stopped):=by rw [cell_of_row w g 3 _ _ _ h];rfl
theorem BoxAt.free {w:World} {g:Nat} {L:Value} {d:DiskD} (h:BoxAt w g L d) (k:Nat):w.frozen? ⟨g,k,none⟩=false:=frozen_of_row w g k _ _ h
theorem BoxAt.below {w w':World} {g B:Nat} {L:Value} {d:DiskD} (h:BoxAt w g L d) (hb:Below B w w') (hg:g<B):BoxAt w' g L d:=(hb.block g hg).trans h
end Go.Proofs.YtdfibahafilklaaGreatDoor.DK
