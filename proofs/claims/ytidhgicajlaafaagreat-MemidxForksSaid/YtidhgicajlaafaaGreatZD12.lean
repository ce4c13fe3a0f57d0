import Derived.Sort.MapsRangeIn
import Derived.Test.YtidhgicajlaafaaGreatZD11
set_option maxRecDepth 100000
set_option maxHeartbeats 8000000
set_option linter.unusedVariables false
set_option linter.unusedSimpArgs false
namespace Go.Proofs.YtidhgicajlaafaaGreat.SM
open Go Go.RowKit MM Go.Maps
abbrev R0:Value→Option (DataW Value×List MemPlace):=fun v=>some (.held v,[])
theorem strKeyed:Keyed Tryz.prog 9:=string_keyed Tryz.underlying9
def MapV (w:World) (mb m:Nat) (F:List UInt8→Option Value):Prop :=
 ∃ D:DataW Value,w.ownsMap Tryz.prog 9 R0 mb m D∧Maps.size D=m∧∀ n,Maps.has D (.string n)=(F n).isSome∧∀ v,F n=some v→∀ z,D.atKey (.string n) z=.held v
theorem keyS (n:List UInt8) (hn:n.length≤maxLen):keyOf Tryz.prog 9 (.string ⟨n.toArray⟩)=some (.string n):=Go.WideMaps.keyOf_string_mk (s:=⟨n.toArray⟩) Tryz.underlying9 (by rw [Lib.size_eq];exact hn)
theorem MapV.lt {w:World} {mb m:Nat} {F:List UInt8→Option Value} (h:MapV w mb m F):mb<w.heap.size:=by
 obtain ⟨D,hD,_⟩:=h
 exact hD.lt
theorem owns_kep {S:Nat→Prop} {w w':World} {R:Value→Option (DataW Value×List MemPlace)} {mb m:Nat} {D:DataW Value} (h:w.ownsMap Tryz.prog 9 R mb m D) (hk:Kep S w w') (hS:S mb):w'.ownsMap Tryz.prog 9 R mb m D:=by
 have hlt:=h.lt
 obtain ⟨es,clock,hb,F,hs,hD⟩:=h
 exact ⟨es,clock,(hk.block mb hlt hS).trans hb,F,hs,hD⟩
theorem MapV.kep {S:Nat→Prop} {w w':World} {mb m:Nat} {F:List UInt8→Option Value} (h:MapV w mb m F) (hk:Kep S w w') (hS:S mb):MapV w' mb m F:=by
 obtain ⟨D,hD,h2⟩:=h
 exact ⟨D,owns_kep hD hk hS,h2⟩
theorem MapV.below {w w':World} {mb m:Nat} {F:List UInt8→Option Value} (h:MapV w mb m F) (hb:Below w.heap.size w w'):MapV w' mb m F:=h.kep (kep_below (fun _=>True) hb) trivial
theorem MapV.made (w:World):MapV (w.alloc (.map #[] 0)) w.heap.size 0 (fun _=>none) :=
 ⟨.map [],World.ownsMap_made _ _ _ _,rfl,fun n=>⟨rfl,fun v h=>by cases h⟩⟩
theorem MapV.obj {w:World} {mb m:Nat} {F:List UInt8→Option Value} (h:MapV w mb m F):∃ es c,w.heap[mb]? = some (.map es c):=by
 obtain ⟨D,⟨es,c,hb,_⟩,_⟩:=h
 exact ⟨es,c,hb⟩
theorem MapV.look {T E:TypeId} (hT:Tryz.prog.underlying T=some (.map 9 E)) {Z:Value} (hZ:∀ w,(zeroValue E).run Tryz.prog w=.ok Z w) {w:World} {mb m:Nat} {F:List UInt8→Option Value} (h:MapV w mb m F) (n:List UInt8) (hn:n.length≤maxLen) :
  (Instr.lookup T (.map (some mb)) (.string ⟨n.toArray⟩) false).run Tryz.prog w=.ok ((F n).getD Z) w:=by
 obtain ⟨D,hD,_,hF⟩:=h
 obtain ⟨v,ps,hrun,hv⟩:=World.ownsMap.lookup hD strKeyed hT (hZ w) (zd:=.held Z) (zp:=[]) rfl (keyS n hn)
 obtain ⟨h1,h2⟩:=hF n
 have hv:DataW.held v=D.atKey (.string n) (.held Z):=by
  simp only [R0,Option.some.injEq,Prod.mk.injEq] at hv
  exact hv.1
 rw [hrun]
 cases hf:F n with
 | none =>
   rw [hf] at h1
   rw [atKey_of_not_has h1] at hv
   have hv:=DataW.held.inj hv
   rw [hv]
   rfl
 | some u =>
   rw [h2 u hf] at hv
   have hv:=DataW.held.inj hv
   rw [hv]
   rfl
theorem MapV.len {T E:TypeId} (hT:Tryz.prog.underlying T=some (.map 9 E)) {w:World} {mb m:Nat} {F:List UInt8→Option Value} (h:MapV w mb m F) (ty:TypeId):(Builtin.len_ #[T] ty #[.map (some mb)]).run Tryz.prog w=.ok (.int .i64 (m:Int)) w:=by
 obtain ⟨D,hD,hm,_⟩:=h
 have:=hD.len hT ty
 rw [hm] at this
 exact this
theorem own_tight {w:World} {mb m:Nat} {D:DataW Value} (h:w.ownsMap Tryz.prog 9 R0 mb m D):w.ownsMap Tryz.prog 9 R0 mb (Maps.size D) D:=by
 obtain ⟨es,c,hb,F,hs,rfl⟩:=h
 exact ⟨es,c,hb,F,by simp [Maps.size,length_sorted],rfl⟩
theorem key_ne {n k:List UInt8} (h:n≠k):(Lit.string n)≠Lit.string k:=fun e=>h (by injection e)
theorem MapV.put_of {w':World} {mb m j:Nat} {F:List UInt8→Option Value} {D:DataW Value} {n:List UInt8} {v:Value} (hT:Tidy D) (hm:Maps.size D=m) (hF:∀ n,Maps.has D (.string n)=(F n).isSome∧∀ v,F n=some v→∀ z,D.atKey (.string n) z=.held v)
  (h:w'.ownsMap Tryz.prog 9 R0 mb j (D.put (.string n) (.held v))):MapV w' mb (if (F n).isSome then m else m+1) (fun k=>if k=n then some v else F k):=by
 have hk:WideAt.IsKeyLit (.string n):=trivial
 have hs:Maps.size (D.put (.string n) (.held v))=if (F n).isSome then m else m+1:=by rw [size_put hT,(hF n).1,hm]
 refine ⟨_,hs▸own_tight h,hs,fun k => ?_⟩
 show Maps.has (D.put (.string n) (.held v)) (.string k)=(if k=n then some v else F k).isSome∧∀ u,(if k=n then some v else F k)=some u→∀ z,(D.put (.string n) (.held v)).atKey (.string k) z=.held u
 by_cases e:k=n
 ·subst e
  rw [has_put_same hT.isMap hk]
  refine ⟨by simp,fun u hu z => ?_⟩
  rw [if_pos rfl] at hu
  have hu:=Option.some.inj hu
  rw [atKey_put_same hT.isMap hk,hu]
 ·rw [has_put_other (key_ne e),if_neg e]
  refine ⟨(hF k).1,fun u hu z => ?_⟩
  rw [atKey_put_other (key_ne e)]
  exact (hF k).2 u hu z
theorem turned_kep {w w':World} {mb:Nat} (h:w.mapTurned w' mb):Kep (fun k=>k≠mb) w w':=kep_grown h.grown (fun k e hk=>hk (by injection e with e;exact e.symm))
theorem MapV.store {T E:TypeId} (hT:Tryz.prog.underlying T=some (.map 9 E)) {w:World} {mb m:Nat} {F:List UInt8→Option Value} (h:MapV w mb m F) (n:List UInt8) (v:Value) (hn:n.length≤maxLen) (hm:m<maxLen) :
  ∃ w',(Instr.mapUpdate T (.map (some mb)) (.string ⟨n.toArray⟩) v).run Tryz.prog w=.ok () w'∧MapV w' mb (if (F n).isSome then m else m+1) (fun k=>if k=n then some v else F k)∧Kep (fun k=>k≠mb) w w':=by
 obtain ⟨D,hD,hs,hF⟩:=h
 obtain ⟨w',hrun,h1,h2⟩:=World.ownsMap.store hD strKeyed hT hm (keyS n hn) (val:=v) (d:=.held v) (ps:=[]) rfl
 exact ⟨w',hrun,MapV.put_of (hD.tidy strKeyed) hs hF h1,turned_kep h2⟩
theorem wp_mapV_store {T E:TypeId} (hT:Tryz.prog.underlying T=some (.map 9 E)) {w:World} {o:Oper} {a:Act} {K:Act→World→Prop} {Q:Exit→Act→World→Prop} (x y z:Operand) (hop:o.op=Op.mapUpdate T x y z) (mb m:Nat) (F:List UInt8→Option Value) (hx:a.eval x=.map (some mb)) (h:MapV w mb m F) (hm:m<maxLen)
  (n:List UInt8) (v:Value) (hy:a.eval y=.string ⟨n.toArray⟩) (hz:a.eval z=v) (hn:n.length≤maxLen)
  (hK:∀ w',MapV w' mb (if (F n).isSome then m else m+1) (fun k=>if k=n then some v else F k)→Kep (fun k=>k≠mb) w w'→K (a.put o.dst undef) w'):o.wp Tryz.prog a w K Q:=by
 obtain ⟨w',hrun,h1,h2⟩:=MapV.store hT h n v hn hm
 unfold Oper.wp
 simp [execOp,hop,hx,hy,hz,hrun,Result.andThen]
 exact hK w' h1 h2
def RangeV (w:World) (mb r m:Nat) (F:List UInt8→Option Value) (left:List UInt8→Bool) (cnt:Nat):Prop :=
 ∃ (D:DataW Value) (lf:Lit→Bool),w.ranges Tryz.prog 9 R0 mb r m D lf cnt∧(∀ n,Maps.has D (.string n)=(F n).isSome∧∀ v,F n=some v→∀ z,D.atKey (.string n) z=.held v)∧∀ n,left n=lf (.string n)
theorem RangeV.kep {S:Nat→Prop} {w w':World} {mb r m:Nat} {F:List UInt8→Option Value} {left:List UInt8→Bool} {cnt:Nat} (h:RangeV w mb r m F left cnt) (hk:Kep S w w') (h1:S mb) (h2:S r):RangeV w' mb r m F left cnt:=by
 obtain ⟨D,lf,hr,h3⟩:=h
 have hb:=hr.owns.lt
 have hl:=hr.lt
 obtain ⟨es,clock,since,seen,c0,g1,g2,g3,g4,g5,rest⟩:=hr
 exact ⟨D,lf,⟨es,clock,since,seen,c0,(hk.block mb hb h1).trans g1,g2,g3,g4,(hk.block r hl h2).trans g5,rest⟩,h3⟩
theorem RangeV.left_eq {w:World} {mb r m:Nat} {F:List UInt8→Option Value} {left:List UInt8→Bool} {cnt:Nat} (h:RangeV w mb r m F left cnt):w.rangeLeft mb r=cnt:=by
 obtain ⟨D,lf,hr,_⟩:=h
 exact hr.left_eq
theorem RangeV.lt {w:World} {mb r m:Nat} {F:List UInt8→Option Value} {left:List UInt8→Bool} {cnt:Nat} (h:RangeV w mb r m F left cnt):r<w.heap.size∧mb<w.heap.size∧r≠mb:=by
 obtain ⟨D,lf,hr,_⟩:=h
 exact ⟨hr.lt,hr.owns.lt,hr.ne⟩
theorem grown_kep {w w':World} {r:Nat} (h:w.grownBy w' (some r)):Kep (fun k=>k≠r) w w':=kep_grown h fun k e hk=>hk (Option.some.inj e).symm
theorem wpList_range_map {T E:TypeId} (hT:Tryz.prog.underlying T=some (.map 9 E)) {w:World} {ops:Array Oper} {rest:List Oper} {o:Oper} {a:Act} {Q:Exit→Act→World→Prop} (hg:o.guard=none) (x:Operand) (hop:o.op=Op.range T x) (mb m:Nat) (F:List UInt8→Option Value)
  (hx:a.eval x=.map (some mb)) (h:MapV w mb m F)
  (hK:∀ w' cnt,RangeV w' mb w.heap.size m F (fun n=>(F n).isSome) cnt→Below w.heap.size w w'→w'.heap.size=w.heap.size+1→wpList Tryz.prog ops Q rest (a.put o.dst (.pointer (some ⟨w.heap.size,0,none⟩))) w') :
  wpList Tryz.prog ops Q (o::rest) a w:=by
 obtain ⟨D,hD,hs,hF⟩:=h
 refine wpList_range_own w hg x T hop 9 E strKeyed hT R0 mb m D hx hD fun w' h1 h2 h3 => ?_
 exact hK w' _ ⟨D,_,h1,hF,fun n=>((hF n).1).symm⟩ ((Below.refl _ _).grown h2 (Nat.le_refl _) (fun k h=>by cases h)) h3
theorem wpList_next_map {w:World} {ops:Array Oper} {rest:List Oper} {o:Oper} {a:Act} {Q:Exit→Act→World→Prop} (hg:o.guard=none) (it:Operand) (hop:o.op=Op.next it false) (mb r m:Nat) (F:List UInt8→Option Value) (left:List UInt8→Bool) (cnt:Nat)
  (hit:a.eval it=.pointer (some ⟨r,0,none⟩)) (h:RangeV w mb r m F left cnt)
  (hDone:(∀ n,left n=false)→wpList Tryz.prog ops Q rest (a.put o.dst (.tuple #[.bool false])) w)
  (hMore:∀ (n:List UInt8) (v:Value) (w':World) (cnt':Nat),n.length≤maxLen→left n=true→F n=some v→RangeV w' mb r m F (fun k=>left k && !decide (k=n)) cnt'→cnt'<cnt→Kep (fun k=>k≠r) w w'→w'.heap.size=w.heap.size →
   (Instr.entry (.pointer (some ⟨r,0,none⟩))).run Tryz.prog w'=.ok (.tuple #[.string ⟨n.toArray⟩,v]) w'→wpList Tryz.prog ops Q rest (a.put o.dst (.tuple #[.bool true,.string ⟨n.toArray⟩,v])) w') :
  wpList Tryz.prog ops Q (o::rest) a w:=by
 obtain ⟨D,lf,hr,hF,hlf⟩:=h
 refine wpList_next_ranges w hg it hop 9 strKeyed R0 Value.string (fun v:Value=>v) (fun key kl hk=>Maps.keyOf_string_inv Tryz.underlying9 hk) (fun v y _=>⟨v,rfl⟩) mb r m D lf cnt hit hr ?_ ?_
 ·intro _ hl
  exact hDone fun n=>by rw [hlf,hl]
 ·intro x v kl y w' cnt' hkey hl hv hat hrg hlt hgr hsz hen
  have hy:y.1=.held v:=by
   have:=Option.some.inj hv
   rw [← this]
  have hlen:x.size≤maxLen:=by
   simp only [keyOf,Tryz.underlying9,mapKey] at hkey
   by_cases q:x.size≤maxLen
   ·exact q
   ·simp [q] at hkey
  have hkl:kl=.string x.data.toList:=by
   rw [Go.WideMaps.keyOf_string_mk Tryz.underlying9 hlen] at hkey
   exact (Option.some.inj hkey).symm
  subst hkl
  rw [hy] at hat
  have hhas:=has_true_of_atKey hat
  rw [(hF x.data.toList).1] at hhas
  obtain ⟨u,hu⟩:=Option.isSome_iff_exists.1 hhas
  have huv:u=v:=by
   have h1:=(hF x.data.toList).2 u hu (.held v)
   rw [hat] at h1
   exact (DataW.held.inj h1).symm
  subst huv
  refine hMore x.data.toList u w' cnt' (by rw [← Lib.size_eq];exact hlen) (by rw [hlf];exact hl) hu ⟨D,_,hrg,hF,fun k => ?_⟩ hlt (grown_kep hgr) hsz hen
  have e:(Lit.string k).sameKey (.string x.data.toList)=decide (k=x.data.toList):=by
   by_cases q:k=x.data.toList
   ·subst q
    rw [decide_eq_true rfl]
    exact WideAt.sameKey_self trivial
   ·rw [decide_eq_false q]
    exact sameKey_ne (key_ne q)
  show (left k && !decide (k=x.data.toList))=(lf (.string k) && !(Lit.string k).sameKey (.string x.data.toList))
  rw [hlf k,e]
end Go.Proofs.YtidhgicajlaafaaGreat.SM
namespace Go.Proofs.YtidhgicajlaafaaGreat.EV
open Go Go.RowKit MM EM SM
def NoS:Nat→Prop:=fun _=>False
abbrev OwnZ (w:World) (v:Value) (zs:List Int):Prop:=OwnS cInt 3 NoS w v zs
theorem OwnZ.of {S:Nat→Prop} {w:World} {v:Value} {zs:List Int} (h:OwnS cInt 3 (fun b=>NoS b∧S b) w v zs):OwnZ w v zs:=h.weak (fun _ _ h=>h.1) (fun _ _ h=>h)
theorem OwnZ.ints {w:World} {v:Value} {zs:List Int} (h:OwnZ w v zs) {g:Nat} (hg:v.ownBlock=some g):IntsOf w g:=by
 obtain ⟨raw,h1,_⟩:=h
 exact (own_cells h1 hg).2
theorem OwnZ.keep {T:Nat→Prop} {w w':World} {v:Value} {zs:List Int} (h:OwnZ w v zs) (hk:Kep T w w') (hg:∀ g,v.ownBlock=some g→T g):OwnZ w' v zs:=OwnS.keep h hk (fun _ _ h=>h.elim) hg
theorem OwnZ.nil_ (w:World):OwnZ w (.slice none 0 0) []:=OwnS.nil_ _ _ _
theorem zeroInts (w:World):(zeroValue 73).run Tryz.prog w=.ok (.slice none 0 0) w:=by kernel_rfl
theorem addP_len {α:Type}:∀ {l:List (EM.Tr α)} (s:List UInt8) (p:α),Rising l→(∀ t∈l,t.2≠[])→(addP l s p).length=if posOf l s=[] then l.length+1 else l.length
 | [],s,p,_,_=>by simp [addP,posOf]
 | t::r,s,p,h,hn=>by
   have hr:Rising r:=(List.pairwise_cons.1 h).2
   have ih:=addP_len (l:=r) s p hr fun u hu=>hn u (by simp [hu])
   rw [addP]
   by_cases h1:lessL t.1 s=true
   ·rw [if_pos h1,List.length_cons,ih,posOf,if_neg (lessL_ne h1),List.length_cons]
    split<;>rfl
   ·rw [if_neg h1]
    by_cases h2:t.1=s
    ·rw [if_pos h2,posOf,if_pos h2,if_neg (hn t (by simp))];rfl
    ·rw [if_neg h2,posOf,if_neg h2]
     have hs:lessL s t.1=true:=lessL_total (by simpa using h1) h2
     have:posOf r s=[]:=posOf_none fun u hu e=>by
      have h3:lessL t.1 u.1=true:=(List.pairwise_cons.1 h).1 u hu
      rw [e] at h3
      exact h1 h3
     rw [if_pos this];rfl
theorem foldP_len_le {α:Type}:∀ (qs:List (List UInt8×α)) (l:List (EM.Tr α)),(foldP l qs).length≤l.length+qs.length
 | [],l=>by simp [foldP]
 | q::qs,l=>by
   have h1:=foldP_len_le qs (addP l q.1 q.2)
   have h2:=addP_len_le l q.1 q.2
   have e:foldP l (q::qs)=foldP (addP l q.1 q.2) qs:=rfl
   rw [e,List.length_cons]
   omega
theorem posOf_len_le {α:Type} (qs:List (List UInt8×α)) (s:List UInt8):(posOf (foldP ([]:List (EM.Tr α)) qs) s).length≤qs.length:=by
 rw [posOf_fold qs s List.Pairwise.nil,posOf,List.nil_append,List.length_map]
 exact List.length_filter_le _ _
structure Plc (B mb:Nat) (T:List Trm) (F:List UInt8→Option Value) (w:World):Prop where
 map:MapV w mb T.length F
 lo:B≤mb
 none:∀ s,F s=none→posOf T s=[]
 own:∀ s v,F s=some v→OwnZ w v (posOf T s)∧posOf T s≠[]∧∀ g,v.ownBlock=some g→B≤g
 apart:∀ s t u v g,F s=some u→F t=some v→u.ownBlock=some g→v.ownBlock=some g→s=t
 rise:Rising T
 ne:∀ t∈T,t.2≠[]
theorem Plc.keep {S:Nat→Prop} {B mb:Nat} {T:List Trm} {F:List UInt8→Option Value} {w w':World} (h:Plc B mb T F w) (hk:Kep S w w') (hm:S mb) (hS:∀ b,IntsOf w b→S b):Plc B mb T F w' :=
 ⟨h.map.kep hk hm,h.lo,h.none,fun s v hv=>⟨(h.own s v hv).1.keep hk fun g hg=>hS g ((h.own s v hv).1.ints hg),(h.own s v hv).2⟩,h.apart,h.rise,h.ne⟩
theorem Plc.below {B mb:Nat} {T:List Trm} {F:List UInt8→Option Value} {w w':World} (h:Plc B mb T F w) (hb:Below w.heap.size w w'):Plc B mb T F w':=h.keep (kep_below (fun _=>True) hb) trivial fun _ _=>trivial
theorem Plc.made (w:World) (B:Nat) (hB:B≤w.heap.size):Plc B w.heap.size [] (fun _=>Option.none) (w.alloc (.map #[] 0)) :=
 ⟨MapV.made w,hB,fun _ _=>rfl,fun _ _ h=>(by cases h),fun _ _ _ _ _ h=>(by cases h),List.Pairwise.nil,fun _ h=>(by cases h)⟩
theorem Plc.not_ints {B mb:Nat} {T:List Trm} {F:List UInt8→Option Value} {w:World} (h:Plc B mb T F w):¬ IntsOf w mb:=fun ⟨cur,fr,hc⟩=>by
 obtain ⟨es,c,hm⟩:=h.map.obj
 rw [hm] at hc
 cases hc
def found (F:List UInt8→Option Value) (s:List UInt8):Value:=(F s).getD (.slice Option.none 0 0)
theorem Plc.look {B mb:Nat} {T:List Trm} {F:List UInt8→Option Value} {w:World} (h:Plc B mb T F w) (s:List UInt8) (hs:s.length≤maxLen):(Instr.lookup 130 (.map (some mb)) (.string ⟨s.toArray⟩) false).run Tryz.prog w=.ok (found F s) w :=
 MapV.look Tryz.underlying130 zeroInts h.map s hs
theorem Plc.found {B mb:Nat} {T:List Trm} {F:List UInt8→Option Value} {w:World} (h:Plc B mb T F w) (s:List UInt8):OwnZ w (found F s) (posOf T s)∧∀ g,(EV.found F s).ownBlock=some g→B≤g∧g≠mb∧IntsOf w g∧g<w.heap.size:=by
 unfold EV.found
 cases hf:F s with
 | none =>
   rw [h.none s hf]
   exact ⟨OwnZ.nil_ w,fun g hg=>by cases hg⟩
 | some v =>
   obtain ⟨h1,_,h2⟩:=h.own s v hf
   exact ⟨h1,fun g hg=>⟨h2 g hg,fun e=>h.not_ints (e▸h1.ints hg),h1.ints hg,(OwnS.lt h1 g hg).1⟩⟩
theorem Plc.some_iff {B mb:Nat} {T:List Trm} {F:List UInt8→Option Value} {w:World} (h:Plc B mb T F w) (s:List UInt8):(F s).isSome=true↔posOf T s≠[]:=by
 cases hf:F s with
 | none=>simp [h.none s hf]
 | some v=>simp [(h.own s v hf).2.1]
theorem Plc.put {B mb:Nat} {T:List Trm} {F:List UInt8→Option Value} {w w1 w2:World} {s:List UInt8} {p:Int} {v:Value} (h:Plc B mb T F w) (hBw:B≤w.heap.size)
  (hk1:Kep (fun k=>(EV.found F s).ownBlock≠some k) w w1) (ho:OwnZ w1 v (posOf T s++[p])) (hg:∀ g,v.ownBlock=some g→(EV.found F s).ownBlock=some g∨w.heap.size≤g)
  (hm:MapV w2 mb (if (F s).isSome then T.length else T.length+1) (fun k=>if k=s then some v else F k)) (hk2:Kep (fun k=>k≠mb) w1 w2):Plc B mb (addP T s p) (fun k=>if k=s then some v else F k) w2:=by
 have hf:=h.found s
 have hlen:(if (F s).isSome then T.length else T.length+1)=(addP T s p).length:=by
  rw [addP_len s p h.rise h.ne]
  by_cases hq:posOf T s=[]
  ·rw [if_pos hq,if_neg (fun e=>(h.some_iff s).1 e hq)]
  ·rw [if_neg hq,if_pos ((h.some_iff s).2 hq)]
 rw [hlen] at hm
 have hvB:∀ g,v.ownBlock=some g→B≤g:=fun g hv=>by
  rcases hg g hv with h1 | h1
  ·exact (hf.2 g h1).1
  ·omega
 have hvm:∀ g,v.ownBlock=some g→g≠mb:=fun g hv=>by
  rcases hg g hv with h1 | h1
  ·exact (hf.2 g h1).2.1
  ·have:=h.map.lt;omega
 have hoth:∀ t u,t≠s→F t=some u→∀ g,u.ownBlock=some g→(EV.found F s).ownBlock≠some g:=fun t u hne hu g hg e=>by
  unfold EV.found at e
  cases hF:F s with
  | none=>rw [hF] at e;cases e
  | some u2 =>
    rw [hF] at e
    exact hne (h.apart t s u u2 g hu hF hg e)
 refine ⟨hm,h.lo,fun t ht => ?_,fun t u hu => ?_,fun t t' u u' g hu hu' h1 h2 => ?_,addP_rising s p h.rise,addP_ne s p h.ne⟩
 ·rw [posOf_add s p t h.rise]
  by_cases e:t=s
  ·rw [if_pos e] at ht;cases ht
  ·rw [if_neg e] at ht ⊢
   exact h.none t ht
 ·rw [posOf_add s p t h.rise]
  by_cases e:t=s
  ·rw [if_pos e] at hu ⊢
   obtain rfl:=Option.some.inj hu
   exact ⟨ho.keep hk2 hvm,by simp,hvB⟩
  ·rw [if_neg e] at hu ⊢
   obtain ⟨h1,h2,h3⟩:=h.own t u hu
   refine ⟨(h1.keep hk1 (hoth t u e hu)).keep hk2 fun g hg e2 => ?_,h2,h3⟩
   exact h.not_ints (e2▸h1.ints hg)
 ·by_cases e:t=s
  ·by_cases e':t'=s
   ·rw [e,e']
   ·rw [if_pos e] at hu
    rw [if_neg e'] at hu'
    obtain rfl:=Option.some.inj hu
    rcases hg g h1 with h3 | h3
    ·exact absurd h3 (hoth t' u' e' hu' g h2)
    ·have:=(OwnS.lt (h.own t' u' hu').1 g h2).1
     omega
  ·by_cases e':t'=s
   ·rw [if_neg e] at hu
    rw [if_pos e'] at hu'
    obtain rfl:=Option.some.inj hu'
    rcases hg g h2 with h3 | h3
    ·exact absurd h3 (hoth t u e hu g h1)
    ·have:=(OwnS.lt (h.own t u hu).1 g h1).1
     omega
   ·rw [if_neg e] at hu
    rw [if_neg e'] at hu'
    exact h.apart t t' u u' g hu hu' h1 h2
end Go.Proofs.YtidhgicajlaafaaGreat.EV
