import Derived.Test.YtdfibahafilklaaGreatDoorZC17
import Derived.Test.YtdfibahafilklaaGreatDoorZC18
import Derived.WalkSpells
set_option maxRecDepth 100000
set_option maxHeartbeats 8000000
set_option linter.unusedVariables false
set_option linter.unusedSimpArgs false
namespace Go.Proofs.YtdfibahafilklaaGreatDoor.DK
open Go.RowKit MM Go.Maps
theorem mapNe (w:World) (r:Option Nat):(binOp .neq 109 (.map r) (.map none)).run Tryz.prog w=.ok (.bool (!r.isNone)) w:=run_neq_map_nil w _ _ _ r Tryz.underlying109
theorem made_yes (g mb:Nat) (w:World) (h:w.cell? ⟨g,0,none⟩=some (.map (some mb))):Calls Tryz.prog 73 #[.pointer (some ⟨g,0,none⟩)] w fun e w'=>e=.returned (.bool true)∧w=w':=by
 have hne:=mapNe
 go_enter Tryz.func73,Tryz.ntmps73
 go_wp2_with fail
 go_ret
 exact ⟨rfl,rfl⟩
theorem made_nil (w:World):Calls Tryz.prog 73 #[.pointer none] w fun e w'=>e=.returned (.bool false)∧w=w':=by
 have hne:=mapNe
 go_enter Tryz.func73,Tryz.ntmps73
 go_wp2_with fail
 go_ret
 exact ⟨rfl,rfl⟩
theorem made_none (g:Nat) (w:World) (h:w.cell? ⟨g,0,none⟩=some (.map none)):Calls Tryz.prog 73 #[.pointer (some ⟨g,0,none⟩)] w fun e w'=>e=.returned (.bool false)∧w=w':=by
 have hne:=mapNe
 go_enter Tryz.func73,Tryz.ntmps73
 go_wp2_with fail
 go_ret
 exact ⟨rfl,rfl⟩
theorem size_any (p:Option Addr) (n cap:Nat) (w:World):Calls Tryz.prog 113 #[.slice p n cap] w fun e w'=>e=.returned (.int .i64 (n:Int))∧w=w':=by
 go_enter Tryz.func113,Tryz.ntmps113
 go_wp2_with fail
 go_ret
 exact ⟨rfl,rfl⟩
def countC (c:Int):Int:=if c<1 then c else c - 1
def CountLeft (S:Nat→Prop) (g mb:Nat) (V:List UInt8→Value) (c:Int) (d:DiskD) (w:World) (e:Ending) (w':World):Prop :=
 e=.returned (.int .i64 (if (callD d).2 then 63 else 0))∧CObj S w' g mb V (countC c) (callD d).1∧Kep (fun k=>k≠g) w w'∧w'.heap.size=w.heap.size
theorem count_any (S:Nat→Prop) (g mb:Nat) (V:List UInt8→Value) (c:Int) (d:DiskD) (w:World) (h:CObj S w g mb V c d) (hst:d.stopped=false):Calls Tryz.prog 66 #[.pointer (some ⟨g,0,none⟩)] w (CountLeft S g mb V c d w):=by
 have h0:=h.g0
 have h1:=h.g1
 have h2:=h.g2
 have h3:=h.g3
 have hf:=fun i=>h.free i
 have hc0:=h.c0
 have hc1:=h.c1
 have ha:=h.armed
 by_cases hc:c<1
 ·have hcd:callD d=(d,false):=by unfold callD;rw [if_pos (by omega)]
  have hcc:countC c=c:=by unfold countC;rw [if_pos hc]
  have HF:=Lib.hid (show CountLeft S g mb V c d w (.returned (.int .i64 0)) w from ⟨by rw [hcd];rfl,by rw [hcd,hcc];exact h,Kep.refl _ _,rfl⟩)
  have t1:decide (c<1)=true:=decide_eq_true hc
  clear h hcd hcc ha
  go_enter Tryz.func66,Tryz.ntmps66
  go_wp2_with fail
  go_ret
  exact HF.out
 ·have hcc:countC c=c - 1:=by unfold countC;rw [if_neg hc]
  have t1:decide (c<1)=false:=decide_eq_false hc
  have hcd:callD d=({ d with armed:=d.armed - 1,stopped:=decide (c - 1=0) },decide (c - 1=0)):=by
   unfold callD
   rw [if_neg (by omega),hst,Bool.false_or,show d.armed - 1=c - 1 by omega]
  have hk:=h.cell_set 2 (.int .i64 (c - 1))
  have ho:=heap_setCell_same w g 2 _ _ (.int .i64 (c - 1)) h.obj
  have hk2:=fun u=>kep_set (S:=fun k=>k≠g) (w:=w.setCell ⟨g,2,none⟩ (.int .i64 (c - 1))) (g:=g) (i:=3) (fun k=>k rfl) u
  have ho2:=heap_setCell_same _ g 3 _ _ (.bool true) ho
  by_cases hz:c - 1=0
  ·have t2:((c - 1:Int) == 0)=true:=by rw [beq_iff_eq];exact hz
   have hz2:c=1:=by omega
   have HF:=Lib.hid (show CountLeft S g mb V c d w (.returned (.int .i64 63)) ((w.setCell ⟨g,2,none⟩ (.int .i64 (c - 1))).setCell ⟨g,3,none⟩ (.bool true)) from
    ⟨by rw [hcd,decide_eq_true hz];rfl,by
     rw [hcd,hcc,decide_eq_true hz]
     exact h.set (hk.trans (hk2 _)) ho2 rfl (by show d.armed - 1=_;omega) (by omega) (by omega),hk.trans (hk2 _),by simp⟩)
   clear h hcd hcc ha hk ho hk2 ho2
   subst hz2
   go_enter Tryz.func66,Tryz.ntmps66
   go_wp2_with fail
   go_ret
   exact HF.out
  ·have t2:((c - 1:Int) == 0)=false:=by rw [beq_eq_false_iff_ne];exact hz
   have HF:=Lib.hid (show CountLeft S g mb V c d w (.returned (.int .i64 0)) (w.setCell ⟨g,2,none⟩ (.int .i64 (c - 1))) from
    ⟨by rw [hcd,decide_eq_false hz];rfl,by
     rw [hcd,hcc,decide_eq_false hz]
     refine h.set hk ?_ rfl (by show d.armed - 1=_;omega) (by omega) (by omega)
     rw [ho,hst]
     rfl,hk,by simp⟩)
   clear h hcd hcc ha hk ho hk2 ho2
   go_enter Tryz.func66,Tryz.ntmps66
   go_wp2_with fail
   go_ret
   exact HF.out
end Go.Proofs.YtdfibahafilklaaGreatDoor.DK
namespace Go.Proofs.YtdfibahafilklaaGreatDoor.DK
open Go.RowKit MM Go.Maps
def FV (w:World) (g:Nat) (v:Value) (s:Int):Prop:=w.heap[g]? = some (.cells #[v,.int .i64 s] 127 (0,0))
theorem FV.f0 {w:World} {g:Nat} {v:Value} {s:Int} (h:FV w g v s):w.cell? ⟨g,0,none⟩=some v:=by rw [cell_of_row w g 0 _ _ _ h];rfl
theorem FV.f1 {w:World} {g:Nat} {v:Value} {s:Int} (h:FV w g v s):w.cell? ⟨g,1,none⟩=some (.int .i64 s):=by rw [cell_of_row w g 1 _ _ _ h];rfl
theorem FV.free {w:World} {g:Nat} {v:Value} {s:Int} (h:FV w g v s) (k:Nat):w.frozen? ⟨g,k,none⟩=false:=frozen_of_row w g k _ _ h
theorem FV.lt {w:World} {g:Nat} {v:Value} {s:Int} (h:FV w g v s):g<w.heap.size:=(Array.getElem?_eq_some_iff.1 h).1
theorem FV.below {w w':World} {g B:Nat} {v:Value} {s:Int} (h:FV w g v s) (hb:Below B w w') (hg:g<B):FV w' g v s:=(hb.block g hg).trans h
theorem FV.kep {S:Nat→Prop} {w w':World} {g:Nat} {v:Value} {s:Int} (h:FV w g v s) (hk:Kep S w w') (hg:S g):FV w' g v s:=(hk.block g h.lt hg).trans h
theorem fv_new (w:World) (v:Value) (s:Int):FV (w.alloc (.cells #[v,.int .i64 s] 127)) w.heap.size v s:=heap_alloc_new _ _
theorem FV.two {w:World} {g:Nat} {v0:Value} {s0:Int} (h:FV w g v0 s0) (v:Value) (s:Int):FV ((w.setCell ⟨g,0,none⟩ v).setCell ⟨g,1,none⟩ (.int .i64 s)) g v s:=by
 have h1:=heap_setCell_same w g 0 _ _ v h
 have h2:=heap_setCell_same _ g 1 _ _ (.int .i64 s) h1
 exact h2
theorem infoCFile:(Tryz.prog.info? 127).map (·.size)=some 2:=by kernel_rfl
theorem results_file_tmp {fn:Func} {p u:Tmp} (h:fn.results=#[.cell p 127,.tmp u]) (tmps:Array Value) (w:World) (g:Nat) (v:Value) (s:Int)
  (hp:tmps.getD p undef=.pointer (some ⟨g,0,none⟩)) (hg:FV w g v s) :
  (results fn tmps).run Tryz.prog w=.ok (.tuple #[.agg #[v,.int .i64 s],tmps.getD u undef]) w:=by
 have hp':tmps[p]?.getD undef=.pointer (some ⟨g,0,none⟩):=by simpa using hp
 simp [results,h,hp',asAddr,run_loadVar_row w g 127 127 _ (0,0) _ hg Tryz.underlying127 rfl infoCFile]
def findE (ok st there:Bool):Int:=if ok then (if st then 63 else if there then 0 else 61) else 60
def FindC (ok st there:Bool) (v:Value) (s:Int) (w:World) (e:Ending) (w':World):Prop :=
 e=.returned (.tuple #[if findE ok st there=0 then .agg #[v,.int .i64 s] else .agg #[.slice none 0 0,.int .i64 0],.int .i64 (findE ok st there)])∧Below w.heap.size w w'
theorem find_raw (B g mb:Nat) (others:Value) (ns:List (List UInt8)) (n:List UInt8) (st there:Bool) (p:Option Addr) (m cap:Nat) (s:Int) (w:World) (hB:B≤w.heap.size) (hg:g<w.heap.size)
  (h0:w.cell? ⟨g,0,none⟩=some (.map (some mb))) (h3:w.cell? ⟨g,3,none⟩=some (.bool st)) (hn:n.length≤1000000000000) (hr:SIn B w others ns) (hl:ns.length≤1000000000000) (hnl:∀ n∈ns,n.length≤1000000000000)
  (hlook:∀ W,Below w.heap.size w W→(Instr.lookup 109 (.map (some mb)) (.string ⟨n.toArray⟩) true).run Tryz.prog W=.ok (.tuple #[.agg #[.slice p m cap,.int .i64 s],.bool there]) W) :
  Calls Tryz.prog 64 #[.pointer (some ⟨g,0,none⟩),.string ⟨n.toArray⟩,others] w (FindC (namedL n && !ns.any (fun n => !namedL n)) st there (.slice p m cap) s w):=by
 obtain ⟨po,capo,rfl,_,_⟩:=hr.shape
 have hbx:∀ o,Below w.heap.size w (w.alloc o):=fun o=>(Below.refl _ _).alloc (Nat.le_refl _) _
 obtain ⟨x,hx⟩:∃ x:ByteArray,(⟨n.toArray⟩:ByteArray)=x:=⟨_,rfl⟩
 obtain ⟨W0,hW0⟩:∃ W,w.alloc (.cells #[.slice none 0 0,.int .i64 0] 127)=W:=⟨_,rfl⟩
 have hb0:Below w.heap.size w W0:=by rw [← hW0];exact hbx _
 have hf0:FV W0 w.heap.size (.slice none 0 0) 0:=by rw [← hW0];exact fv_new w _ 0
 have HM:=Lib.hid (made_yes g mb W0 (by rw [hb0.cell (p:=⟨g,0,none⟩) hg];exact h0))
 have HN:=Lib.hid (mnb_any n W0 hn)
 have HC:=Lib.hid (fun W (hW:Below w.heap.size w W)=>cons_any B _ ns W (hr.below (hW.mono hB)) (Nat.le_trans hB hW.size) hl hnl)
 have HG:=Lib.hid (fun W (hW:Below w.heap.size w W)=>(show W.cell? ⟨g,0,none⟩=some (.map (some mb))∧W.cell? ⟨g,3,none⟩=some (.bool st) from ⟨by rw [hW.cell (p:=⟨g,0,none⟩) hg];exact h0,by rw [hW.cell (p:=⟨g,3,none⟩) hg];exact h3⟩))
 have HL:=Lib.hid hlook
 have HB0:=Lib.hid hb0
 have HF0:=Lib.hid hf0
 rw [hx] at HN HL
 rw [hx]
 generalize namedL n=bn at *
 generalize ns.any (fun n => !namedL n)=bo at *
 have hs0:W0.heap.size=w.heap.size+1:=by rw [← hW0];simp
 clear hr hnl hlook hx h0 h3 hb0 hf0 hbx
 have HW0:=Lib.hid hW0
 have HS0:=Lib.hid hs0
 clear hW0 hs0
 go_enter Tryz.func64,Tryz.ntmps64
 go_wp2_with fail
 rw [HW0.out]
 refine HM.out.mono ?_
 rintro e w' ⟨rfl,rfl⟩
 go_wp2_with fail
 refine HN.out.mono ?_
 rintro e W1 ⟨rfl,hb1⟩
 have hs0:=HS0.out
 have hbw1:=HB0.out.trans (hb1.mono (by omega))
 have hf1:=HF0.out.below hb1 HF0.out.lt
 have HB1:=Lib.hid hbw1
 have HF1:=Lib.hid hf1
 clear hb1 hbw1 hf1 HM HN
 cases bn with
 | false =>
   have c0:=HF1.out.f0
   have c1:=HF1.out.f1
   have c2:=fun k=>HF1.out.free k
   have HE:=Lib.hid (show FV _ _ _ _ from HF1.out.two (.slice none 0 0) 0)
   have HBE:=Lib.hid (show Below w.heap.size w _ from (HB1.out.setCell (p:=⟨w.heap.size,0,none⟩) (Nat.le_refl _) (.slice none 0 0)).setCell (p:=⟨w.heap.size,1,none⟩) (Nat.le_refl _) (.int .i64 0))
   go_wp2_with fail
   refine bodyPost_ret (results_file_tmp rfl _ _ w.heap.size _ _ rfl HE.out) rfl ?_
   exact ⟨rfl,HBE.out⟩
 | true =>
   go_wp2_with fail
   refine (HC.out _ HB1.out).mono ?_
   rintro e W2 ⟨rfl,hb2⟩
   have hbw2:=HB1.out.trans (hb2.mono HB1.out.size)
   have hf2:=HF1.out.below hb2 HF1.out.lt
   have HB2:=Lib.hid hbw2
   have HF2:=Lib.hid hf2
   have c0:=HF2.out.f0
   have c1:=HF2.out.f1
   have c2:=fun k=>HF2.out.free k
   obtain ⟨h0,h3⟩:=HG.out W2 HB2.out
   have hlt2:=HF2.out.lt
   clear hb2 hbw2 hf2 HC HB1 HF1
   cases bo with
   | true =>
     have HE:=Lib.hid (show FV _ _ _ _ from HF2.out.two (.slice none 0 0) 0)
     have HBE:=Lib.hid (show Below w.heap.size w _ from (HB2.out.setCell (p:=⟨w.heap.size,0,none⟩) (Nat.le_refl _) (.slice none 0 0)).setCell (p:=⟨w.heap.size,1,none⟩) (Nat.le_refl _) (.int .i64 0))
     go_wp2_with fail
     refine bodyPost_ret (results_file_tmp rfl _ _ w.heap.size _ _ rfl HE.out) rfl ?_
     exact ⟨rfl,HBE.out⟩
   | false =>
     cases st with
     | true =>
       have HE:=Lib.hid (show FV _ _ _ _ from HF2.out.two (.slice none 0 0) 0)
       have HBE:=Lib.hid (show Below w.heap.size w _ from (HB2.out.setCell (p:=⟨w.heap.size,0,none⟩) (Nat.le_refl _) (.slice none 0 0)).setCell (p:=⟨w.heap.size,1,none⟩) (Nat.le_refl _) (.int .i64 0))
       go_wp2_with fail
       refine bodyPost_ret (results_file_tmp rfl _ _ w.heap.size _ _ rfl HE.out) rfl ?_
       exact ⟨rfl,HBE.out⟩
     | false =>
       have hlk:=HL.out W2 HB2.out
       cases there with
       | false =>
         have HE:=Lib.hid (show ∀ o,FV (World.alloc _ o) _ _ _ from fun o=>(HF2.out.two (.slice none 0 0) 0).below ((Below.refl _ _).alloc (Nat.le_refl _) o) (by simp;omega))
         have HBE:=Lib.hid (show ∀ o,Below w.heap.size w (World.alloc _ o) from fun o=>((HB2.out.setCell (p:=⟨w.heap.size,0,none⟩) (Nat.le_refl _) (.slice none 0 0)).setCell (p:=⟨w.heap.size,1,none⟩) (Nat.le_refl _) (.int .i64 0)).alloc (by simp;omega) o)
         go_wp2_with fail
         refine bodyPost_ret (results_file_tmp rfl _ _ w.heap.size _ _ rfl (HE.out _)) rfl ?_
         exact ⟨rfl,HBE.out _⟩
       | true =>
         have HE:=Lib.hid (show ∀ o,FV (World.alloc _ o) _ _ _ from fun o=>(HF2.out.two (.slice p m cap) s).below ((Below.refl _ _).alloc (Nat.le_refl _) o) (by simp;omega))
         have HBE:=Lib.hid (show ∀ o,Below w.heap.size w (World.alloc _ o) from fun o=>((HB2.out.setCell (p:=⟨w.heap.size,0,none⟩) (Nat.le_refl _) (.slice p m cap)).setCell (p:=⟨w.heap.size,1,none⟩) (Nat.le_refl _) (.int .i64 s)).alloc (by simp;omega) o)
         go_wp2_with fail
         refine bodyPost_ret (results_file_tmp rfl _ _ w.heap.size _ _ rfl (HE.out _)) rfl ?_
         exact ⟨rfl,HBE.out _⟩
end Go.Proofs.YtdfibahafilklaaGreatDoor.DK
