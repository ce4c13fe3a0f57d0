import Derived.Test.YtdfibahafilklaaGreatDoorZC20
import Derived.Sort.MapsRangeIn
set_option maxRecDepth 100000
set_option maxHeartbeats 8000000
set_option linter.unusedVariables false
set_option linter.unusedSimpArgs false
namespace Go.Proofs.YtdfibahafilklaaGreatDoor.DK
open Go.RowKit MM Go.Maps
def RangeV (w:World) (mb r m:Nat) (F:List UInt8→Option Value) (left:List UInt8→Bool) (cnt:Nat):Prop :=
 ∃ (D:DataW Value) (lf:Lit→Bool),w.ranges Tryz.prog 9 R0 mb r m D lf cnt∧(∀ n,Maps.has D (.string n)=(F n).isSome∧∀ v,F n=some v→∀ z,D.atKey (.string n) z=.held v)∧∀ n,left n=lf (.string n)
theorem RangeV.kep {S:Nat→Prop} {w w':World} {mb r m:Nat} {F:List UInt8→Option Value} {left:List UInt8→Bool} {cnt:Nat} (h:RangeV w mb r m F left cnt) (hk:Kep S w w') (h1:S mb) (h2:S r):RangeV w' mb r m F left cnt:=by
 obtain ⟨D,lf,hr,h3⟩:=h
 have hb:=hr.owns.lt
 have hl:=hr.lt
 obtain ⟨es,clock,since,seen,c0,g1,g2,g3,g4,g5,rest⟩:=hr
 exact ⟨D,lf,⟨es,clock,since,seen,c0,(hk.block mb hb h1).trans g1,g2,g3,g4,(hk.block r hl h2).trans g5,rest⟩,h3⟩
theorem RangeV.left_eq {w:World} {mb r m:Nat} {F:List UInt8→Option Value} {left:List UInt8→Bool} {cnt:Nat} (h:RangeV w mb r m F left cnt):w.rangeLeft mb r=cnt:=by
 obtain ⟨D,lf,hr,_⟩:=h
 exact hr.left_eq
theorem RangeV.lt {w:World} {mb r m:Nat} {F:List UInt8→Option Value} {left:List UInt8→Bool} {cnt:Nat} (h:RangeV w mb r m F left cnt):r<w.heap.size∧mb<w.heap.size∧r≠mb:=by
 obtain ⟨D,lf,hr,_⟩:=h
 exact ⟨hr.lt,hr.owns.lt,hr.ne⟩
theorem grown_kep {w w':World} {r:Nat} (h:w.grownBy w' (some r)):Kep (fun k=>k≠r) w w':=kep_grown h fun k e hk=>hk (Option.some.inj e).symm
theorem wpList_range_files {w:World} {ops:Array Oper} {rest:List Oper} {o:Oper} {a:Act} {Q:Exit→Act→World→Prop} (hg:o.guard=none) (x:Operand) (hop:o.op=Op.range 109 x) (mb m:Nat) (F:List UInt8→Option Value)
  (hx:a.eval x=.map (some mb)) (h:MapV w mb m F)
  (hK:∀ w' cnt,RangeV w' mb w.heap.size m F (fun n=>(F n).isSome) cnt→Below w.heap.size w w'→w'.heap.size=w.heap.size+1→wpList Tryz.prog ops Q rest (a.put o.dst (.pointer (some ⟨w.heap.size,0,none⟩))) w') :
  wpList Tryz.prog ops Q (o::rest) a w:=by
 obtain ⟨D,hD,hs,hF⟩:=h
 refine wpList_range_own w hg x 109 hop 9 127 strKeyed Tryz.underlying109 R0 mb m D hx hD fun w' h1 h2 h3 => ?_
 exact hK w' _ ⟨D,_,h1,hF,fun n=>((hF n).1).symm⟩ ((Below.refl _ _).grown h2 (Nat.le_refl _) (fun k h=>by cases h)) h3
theorem wpList_next_files {w:World} {ops:Array Oper} {rest:List Oper} {o:Oper} {a:Act} {Q:Exit→Act→World→Prop} (hg:o.guard=none) (it:Operand) (hop:o.op=Op.next it false) (mb r m:Nat) (F:List UInt8→Option Value) (left:List UInt8→Bool) (cnt:Nat)
  (hit:a.eval it=.pointer (some ⟨r,0,none⟩)) (h:RangeV w mb r m F left cnt)
  (hDone:(∀ n,left n=false)→wpList Tryz.prog ops Q rest (a.put o.dst (.tuple #[.bool false])) w)
  (hMore:∀ (n:List UInt8) (v:Value) (w':World) (cnt':Nat),n.length≤maxLen→left n=true→F n=some v→RangeV w' mb r m F (fun k=>left k && !decide (k=n)) cnt'→cnt'<cnt→Kep (fun k=>k≠r) w w'→w'.heap.size=w.heap.size →
   (Instr.entry (.pointer (some ⟨r,0,none⟩))).run Tryz.prog w'=.ok (.tuple #[.string ⟨n.toArray⟩,v]) w'→wpList Tryz.prog ops Q rest (a.put o.dst (.tuple #[.bool true,.string ⟨n.toArray⟩,v])) w') :
  wpList Tryz.prog ops Q (o::rest) a w:=by
 obtain ⟨D,lf,hr,hF,hlf⟩:=h
 refine wpList_next_ranges w hg it hop 9 strKeyed R0 Value.string (fun v:Value=>v) (fun key kl hk=>Maps.keyOf_string_inv Tryz.underlying9 hk) (fun v y _=>⟨v,rfl⟩) mb r m D lf cnt hit hr ?_ ?_
 ·intro _ hl
  exact hDone fun n=>by rw [hlf,hl]
 ·intro x v kl y w' cnt' hkey hl hv hat hrg hlt hgr hsz hen
  have hy:y.1=.held v:=by
   have:=Option.some.inj hv
   rw [← this]
  have hlen:x.size≤maxLen:=by
   simp only [keyOf,Tryz.underlying9,mapKey] at hkey
   by_cases q:x.size≤maxLen
   ·exact q
   ·simp [q] at hkey
  have hkl:kl=.string x.data.toList:=by
   rw [Go.WideMaps.keyOf_string_mk Tryz.underlying9 hlen] at hkey
   exact (Option.some.inj hkey).symm
  subst hkl
  rw [hy] at hat
  have hhas:=has_true_of_atKey hat
  rw [(hF x.data.toList).1] at hhas
  obtain ⟨u,hu⟩:=Option.isSome_iff_exists.1 hhas
  have huv:u=v:=by
   have h1:=(hF x.data.toList).2 u hu (.held v)
   rw [hat] at h1
   exact (DataW.held.inj h1).symm
  subst huv
  refine hMore x.data.toList u w' cnt' (by rw [← Lib.size_eq];exact hlen) (by rw [hlf];exact hl) hu ⟨D,_,hrg,hF,fun k => ?_⟩ hlt (grown_kep hgr) hsz hen
  have e:(Lit.string k).sameKey (.string x.data.toList)=decide (k=x.data.toList):=by
   by_cases q:k=x.data.toList
   ·subst q
    rw [decide_eq_true rfl]
    exact WideAt.sameKey_self trivial
   ·rw [decide_eq_false q]
    exact sameKey_ne (key_ne q)
  show (left k && !decide (k=x.data.toList))=(lf (.string k) && !(Lit.string k).sameKey (.string x.data.toList))
  rw [hlf k,e]
def goneL (L:List FileD) (left:List UInt8→Bool):Nat:=(L.map (fun f=>if left f.name then 0 else f.b.length)).sum
theorem gone_start:∀ (L M:List FileD),(∀ f∈L,(findL M f.name).isSome=true)→goneL L (fun n=>(findL M n).isSome)=0
 | [],_,_=>rfl
 | f::L,M,h=>by
   have ih:=gone_start L M fun g hg=>h g (List.mem_cons_of_mem _ hg)
   unfold goneL at ih ⊢
   rw [List.map_cons,List.sum_cons,ih,if_pos (h f (List.mem_cons_self ..))]
theorem gone_end (L:List FileD) (left:List UInt8→Bool) (h:∀ n,left n=false):goneL L left=usedL L:=by
 unfold goneL usedL
 congr 1
 exact List.map_congr_left fun f _=>by rw [h];rfl
theorem gone_other:∀ (L:List FileD) (left:List UInt8→Bool) (n:List UInt8),(∀ g∈L,g.name≠n)→goneL L (fun k=>left k && !decide (k=n))=goneL L left
 | [],_,_,_=>rfl
 | f::L,left,n,h=>by
   have ih:=gone_other L left n fun g hg=>h g (List.mem_cons_of_mem _ hg)
   unfold goneL at ih ⊢
   rw [List.map_cons,List.sum_cons,List.map_cons,List.sum_cons,ih]
   simp [h f (List.mem_cons_self ..)]
theorem gone_step:∀ (L:List FileD) (left:List UInt8→Bool) (n:List UInt8) (f:FileD),Rise L→findL L n=some f→left n=true→goneL L (fun k=>left k && !decide (k=n))=goneL L left+f.b.length
 | [],_,_,_,_,h,_=>by simp [findL] at h
 | x::L,left,n,f,hr,h,hl=>by
   by_cases e:x.name=n
   ·have hx:x=f:=by simpa [findL,e] using h
    subst hx
    have:=gone_other L left n fun g hg k=>by
     have:=hr.1 g hg
     rw [e,← k,lessL_irr] at this
     cases this
    unfold goneL at this ⊢
    rw [List.map_cons,List.sum_cons,List.map_cons,List.sum_cons,this]
    simp [e,hl]
    omega
   ·have ih:=gone_step L left n f hr.2 (by simpa [findL,e] using h) hl
    unfold goneL at ih ⊢
    rw [List.map_cons,List.sum_cons,List.map_cons,List.sum_cons,ih]
    simp [e]
    omega
theorem gone_le:∀ (L:List FileD) (left:List UInt8→Bool),goneL L left≤usedL L
 | [],_=>Nat.le_refl _
 | f::L,left=>by
   have ih:=gone_le L left
   unfold goneL usedL at ih ⊢
   rw [List.map_cons,List.sum_cons,List.map_cons,List.sum_cons]
   split<;>omega
theorem self_find:∀ {L:List FileD} {f:FileD},f∈L→(findL L f.name).isSome=true:=fun {L f} h=>by
 unfold findL
 rw [List.find?_isSome]
 exact ⟨f,h,by simp⟩
theorem cused_any (S:Nat→Prop) (g mb:Nat) (V:List UInt8→Value) (c:Int) (d:DiskD) (w:World) (h:CObj S w g mb V c d) (hF:Fits d) (hu:usedL d.L≤1000000000000000):Calls Tryz.prog 114 #[.pointer (some ⟨g,0,none⟩)] w fun e w'=>e=.returned (.int .i64 (usedL d.L:Int))∧Below w.heap.size w w':=by
 have h0:=h.g0
 have HM:=Lib.hid h.tab.map
 have hown:=fun f hf=>own_slice (h.tab.own f hf)
 have HOWN:=Lib.hid hown
 have hS:=gone_start d.L d.L fun f hf=>self_find hf
 have hS:goneL d.L (fun n=>(tabF d.L V n).isSome)=0:=by
  rw [← hS]
  congr 1
  funext n
  exact (cur_tab d V n).2
 have HS:=Lib.hid hS
 have HR:=Lib.hid hF.good.rise
 have HLE:=Lib.hid (gone_le d.L)
 have hml:=h.mlt
 clear h hF hown hS
 go_enter Tryz.func114,Tryz.ntmps114
 go_wp2_with (at_range;go_loud (refine wpList_range_files rfl _ rfl mb _ _ rfl HM.out ?_;intro w0 cnt0 hrg0 hb0 hs0))
 have HB0:=Lib.hid hb0
 have HR0:=Lib.hid hrg0
 have HS0:=Lib.hid hs0
 clear hrg0 hb0 hs0
 go_frame
 go_loopw [3] (fun v wr=>∃ (j:Nat) (left:List UInt8→Bool) (cnt:Nat),v=.int .i64 (j:Int)∧j≤1000000000000000∧Hid (j=goneL d.L left)∧Hid (RangeV wr mb w.heap.size d.L.length (tabF d.L V) left cnt)∧Hid (Below w.heap.size w wr)) (fun _ wr=>wr.rangeLeft mb w.heap.size)
 case atStart=>exact ⟨0,_,cnt0,rfl,by omega,Lib.hid HS.out.symm,HR0,HB0⟩
 case round =>
  obtain ⟨j,left,cnt,rfl,hj,HJ,HRG,HB⟩:=hrel
  clear HR0 HB0
  have hle:=HLE.out left
  go_wp2_with (at_next;go_loud (refine wpList_next_files rfl _ rfl mb w.heap.size _ _ left cnt rfl HRG.out ?_ ?_))
  ·intro hl0
   have hjn:=HJ.out
   rw [gone_end d.L left hl0] at hjn
   subst hjn
   clear HJ
   go_wp2_with fail
   go_ret
   exact ⟨rfl,HB.out⟩
  ·intro n v w1 cnt1 hn hl hFn hrg1 hlt hk1 hsz hen
   obtain ⟨f,hf,hfv⟩:∃ f,findL d.L n=some f∧fileCV (V n) f.sure=v:=by
    unfold tabF at hFn
    obtain ⟨f,h1,h2⟩:=Option.map_eq_some_iff.1 hFn
    exact ⟨f,h1,h2⟩
   obtain ⟨p,cap,hv,_,_⟩:=HOWN.out f (find_mem hf).1
   rw [(find_mem hf).2] at hv
   unfold fileCV at hfv
   rw [hv] at hfv
   subst hfv
   have hstep:=gone_step d.L left n f HR.out hf hl
   have hle2:=HLE.out (fun k=>left k && !decide (k=n))
   rw [hstep,← HJ.out] at hle2
   have HST:=Lib.hid hstep
   have hba:∀ o,Below w1.heap.size w1 (w1.alloc o):=fun o=>(Below.refl _ _).alloc (Nat.le_refl _) _
   have hlt1:=hrg1.lt
   have hle0:=HB.out.size
   have HRN:=Lib.hid (fun o=>hrg1.kep (kep_below (fun _=>True) (hba o)) trivial trivial)
   have HBN:=Lib.hid (fun o=>HB.out.trans (((hk1.below (B:=w.heap.size) hle0 (fun k hk e=>by omega))).trans ((hba o).mono (by omega))))
   have HLQ:=Lib.hid hrg1.left_eq
   have HRL:=Lib.hid HRG.out.left_eq
   have HCN:=Lib.hid hlt
   generalize f.b.length=fl at *
   clear hrg1 hlt hk1 hsz hFn hv hf hstep hba hl hlt1
   go_wp2_with fail
   refine (size_any _ _ _ _).mono ?_
   rintro e w' ⟨rfl,rfl⟩
   go_wp2_with fail
   go_roundw
   case rel=>exact ⟨j+fl,_,cnt1,by go_num,by omega,Lib.hid (by rw [HST.out,HJ.out]),Lib.hid (HRN.out _),Lib.hid (HBN.out _)⟩
   case measure =>
    rw [HRL.out,(HRN.out _).left_eq]
    exact HCN.out
end Go.Proofs.YtdfibahafilklaaGreatDoor.DK
