import Derived.Test.YtdfibahafilklaaGreatDoorZB14
import Derived.WalkSpells
set_option maxRecDepth 100000
set_option maxHeartbeats 8000000
set_option linter.unusedVariables false
set_option linter.unusedSimpArgs false
namespace Go.Proofs.YtdfibahafilklaaGreatDoor.DK
open Go.RowKit MM Go.Maps
theorem mapNe (w:World) (r:Option Nat):(binOp .neq 109 (.map r) (.map none)).run Tryz.prog w=.ok (.bool (!r.isNone)) w:=run_neq_map_nil w _ _ _ r Tryz.underlying109
theorem made_yes (g mb:Nat) (w:World) (h:w.cell? ⟨g,0,none⟩=some (.map (some mb))):Calls Tryz.prog 73 #[.pointer (some ⟨g,0,none⟩)] w fun e w'=>e=.returned (.bool true)∧w=w':=by
 have hne:=mapNe
 go_enter Tryz.func73,Tryz.ntmps73
 go_wp2_with fail
 go_ret
 exact ⟨rfl,rfl⟩
theorem size_any (p:Option Addr) (n cap:Nat) (w:World):Calls Tryz.prog 113 #[.slice p n cap] w fun e w'=>e=.returned (.int .i64 (n:Int))∧w=w':=by
 go_enter Tryz.func113,Tryz.ntmps113
 go_wp2_with fail
 go_ret
 exact ⟨rfl,rfl⟩
def countC (c:Int):Int:=if c<1 then c else c - 1
def CountLeft (S:Nat→Prop) (g mb:Nat) (V:List UInt8→Value) (c:Int) (d:DiskD) (w:World) (e:Ending) (w':World):Prop :=
 e=.returned (.int .i64 (if (callD d).2 then 63 else 0))∧CObj S w' g mb V (countC c) (callD d).1∧Kep (fun k=>k≠g) w w'∧w'.heap.size=w.heap.size
theorem count_any (S:Nat→Prop) (g mb:Nat) (V:List UInt8→Value) (c:Int) (d:DiskD) (w:World) (h:CObj S w g mb V c d) (hst:d.stopped=false):Calls Tryz.prog 66 #[.pointer (some ⟨g,0,none⟩)] w (CountLeft S g mb V c d w):=by
 have h0:=h.g0
 have h1:=h.g1
 have h2:=h.g2
 have h3:=h.g3
 have hf:=fun i=>h.free i
 have hc0:=h.c0
 have hc1:=h.c1
 have ha:=h.armed
 by_cases hc:c<1
 ·have hcd:callD d=(d,false):=by unfold callD;rw [if_pos (by omega)]
  have hcc:countC c=c:=by unfold countC;rw [if_pos hc]
  have HF:=Lib.hid (show CountLeft S g mb V c d w (.returned (.int .i64 0)) w from ⟨by rw [hcd];rfl,by rw [hcd,hcc];exact h,Kep.refl _ _,rfl⟩)
  have t1:decide (c<1)=true:=decide_eq_true hc
  clear h hcd hcc ha
  go_enter Tryz.func66,Tryz.ntmps66
  go_wp2_with fail
  go_ret
  exact HF.out
 ·have hcc:countC c=c - 1:=by unfold countC;rw [if_neg hc]
  have t1:decide (c<1)=false:=decide_eq_false hc
  have hcd:callD d=({ d with armed:=d.armed - 1,stopped:=decide (c - 1=0) },decide (c - 1=0)):=by
   unfold callD
   rw [if_neg (by omega),hst,Bool.false_or,show d.armed - 1=c - 1 by omega]
  have hk:=h.cell_set 2 (.int .i64 (c - 1))
  have ho:=heap_setCell_same w g 2 _ _ (.int .i64 (c - 1)) h.obj
  have hk2:=fun u=>kep_set (S:=fun k=>k≠g) (w:=w.setCell ⟨g,2,none⟩ (.int .i64 (c - 1))) (g:=g) (i:=3) (fun k=>k rfl) u
  have ho2:=heap_setCell_same _ g 3 _ _ (.bool true) ho
  by_cases hz:c - 1=0
  ·have t2:((c - 1:Int) == 0)=true:=by rw [beq_iff_eq];exact hz
   have hz2:c=1:=by omega
   have HF:=Lib.hid (show CountLeft S g mb V c d w (.returned (.int .i64 63)) ((w.setCell ⟨g,2,none⟩ (.int .i64 (c - 1))).setCell ⟨g,3,none⟩ (.bool true)) from
    ⟨by rw [hcd,decide_eq_true hz];rfl,by
     rw [hcd,hcc,decide_eq_true hz]
     exact h.set (hk.trans (hk2 _)) ho2 rfl (by show d.armed - 1=_;omega) (by omega) (by omega),hk.trans (hk2 _),by simp⟩)
   clear h hcd hcc ha hk ho hk2 ho2
   subst hz2
   go_enter Tryz.func66,Tryz.ntmps66
   go_wp2_with fail
   go_ret
   exact HF.out
  ·have t2:((c - 1:Int) == 0)=false:=by rw [beq_eq_false_iff_ne];exact hz
   have HF:=Lib.hid (show CountLeft S g mb V c d w (.returned (.int .i64 0)) (w.setCell ⟨g,2,none⟩ (.int .i64 (c - 1))) from
    ⟨by rw [hcd,decide_eq_false hz];rfl,by
     rw [hcd,hcc,decide_eq_false hz]
     refine h.set hk ?_ rfl (by show d.armed - 1=_;omega) (by omega) (by omega)
     rw [ho,hst]
     rfl,hk,by simp⟩)
   clear h hcd hcc ha hk ho hk2 ho2
   go_enter Tryz.func66,Tryz.ntmps66
   go_wp2_with fail
   go_ret
   exact HF.out
end Go.Proofs.YtdfibahafilklaaGreatDoor.DK
namespace Go.Proofs.YtdfibahafilklaaGreatDoor.DK
open Go.RowKit MM Go.Maps
def FV (w:World) (g:Nat) (v:Value) (s:Int):Prop:=w.heap[g]? = some (.cells #[v,.int .i64 s] 127 (0,0))
theorem FV.f0 {w:World} {g:Nat} {v:Value} {s:Int} (h:FV w g v s):w.cell? ⟨g,0,none⟩=some v:=by rw [cell_of_row w g 0 _ _ _ h];rfl
theorem FV.f1 {w:World} {g:Nat} {v:Value} {s:Int} (h:FV w g v s):w.cell? ⟨g,1,none⟩=some (.int .i64 s):=by rw [cell_of_row w g 1 _ _ _ h];rfl
theorem FV.free {w:World} {g:Nat} {v:Value} {s:Int} (h:FV w g v s) (k:Nat):w.frozen? ⟨g,k,none⟩=false:=frozen_of_row w g k _ _ h
theorem FV.lt {w:World} {g:Nat} {v:Value} {s:Int} (h:FV w g v s):g<w.heap.size:=(Array.getElem?_eq_some_iff.1 h).1
theorem FV.below {w w':World} {g B:Nat} {v:Value} {s:Int} (h:FV w g v s) (hb:Below B w w') (hg:g<B):FV w' g v s:=(hb.block g hg).trans h
theorem FV.kep {S:Nat→Prop} {w w':World} {g:Nat} {v:Value} {s:Int} (h:FV w g v s) (hk:Kep S w w') (hg:S g):FV w' g v s:=(hk.block g h.lt hg).trans h
theorem fv_new (w:World) (v:Value) (s:Int):FV (w.alloc (.cells #[v,.int .i64 s] 127)) w.heap.size v s:=heap_alloc_new _ _
theorem FV.two {w:World} {g:Nat} {v0:Value} {s0:Int} (h:FV w g v0 s0) (v:Value) (s:Int):FV ((w.setCell ⟨g,0,none⟩ v).setCell ⟨g,1,none⟩ (.int .i64 s)) g v s:=by
 have h1:=heap_setCell_same w g 0 _ _ v h
 have h2:=heap_setCell_same _ g 1 _ _ (.int .i64 s) h1
 exact h2
theorem infoCFile:(Tryz.prog.info? 127).map (·.size)=some 2:=by kernel_rfl
theorem results_file_tmp {fn:Func} {p u:Tmp} (h:fn.results=#[.cell p 127,.tmp u]) (tmps:Array Value) (w:World) (g:Nat) (v:Value) (s:Int)
  (hp:tmps.getD p undef=.pointer (some ⟨g,0,none⟩)) (hg:FV w g v s) :
  (results fn tmps).run Tryz.prog w=.ok (.tuple #[.agg #[v,.int .i64 s],tmps.getD u undef]) w:=by
 have hp':tmps[p]?.getD undef=.pointer (some ⟨g,0,none⟩):=by simpa using hp
 simp [results,h,hp',asAddr,run_loadVar_row w g 127 127 _ (0,0) _ hg Tryz.underlying127 rfl infoCFile]
def findE (ok st there:Bool):Int:=if ok then (if st then 63 else if there then 0 else 61) else 60
def FindC (ok st there:Bool) (v:Value) (s:Int) (w:World) (e:Ending) (w':World):Prop :=
 e=.returned (.tuple #[if findE ok st there=0 then .agg #[v,.int .i64 s] else .agg #[.slice none 0 0,.int .i64 0],.int .i64 (findE ok st there)])∧Below w.heap.size w w'
theorem find_raw (B g mb:Nat) (others:Value) (ns:List (List UInt8)) (n:List UInt8) (st there:Bool) (p:Option Addr) (m cap:Nat) (s:Int) (w:World) (hB:B≤w.heap.size) (hg:g<w.heap.size)
  (h0:w.cell? ⟨g,0,none⟩=some (.map (some mb))) (h3:w.cell? ⟨g,3,none⟩=some (.bool st)) (hn:n.length≤1000000000000) (hr:SIn B w others ns) (hl:ns.length≤1000000000000) (hnl:∀ n∈ns,n.length≤1000000000000)
  (hlook:∀ W,Below w.heap.size w W→(Instr.lookup 109 (.map (some mb)) (.string ⟨n.toArray⟩) true).run Tryz.prog W=.ok (.tuple #[.agg #[.slice p m cap,.int .i64 s],.bool there]) W) :
  Calls Tryz.prog 64 #[.pointer (some ⟨g,0,none⟩),.string ⟨n.toArray⟩,others] w (FindC (namedL n && !ns.any (fun n => !namedL n)) st there (.slice p m cap) s w):=by
 obtain ⟨po,capo,rfl,_,_⟩:=hr.shape
 have hbx:∀ o,Below w.heap.size w (w.alloc o):=fun o=>(Below.refl _ _).alloc (Nat.le_refl _) _
 obtain ⟨x,hx⟩:∃ x:ByteArray,(⟨n.toArray⟩:ByteArray)=x:=⟨_,rfl⟩
 obtain ⟨W0,hW0⟩:∃ W,w.alloc (.cells #[.slice none 0 0,.int .i64 0] 127)=W:=⟨_,rfl⟩
 have hb0:Below w.heap.size w W0:=by rw [← hW0];exact hbx _
 have hf0:FV W0 w.heap.size (.slice none 0 0) 0:=by rw [← hW0];exact fv_new w _ 0
 have HM:=Lib.hid (made_yes g mb W0 (by rw [hb0.cell (p:=⟨g,0,none⟩) hg];exact h0))
 have HN:=Lib.hid (mnb_any n W0 hn)
 have HC:=Lib.hid (fun W (hW:Below w.heap.size w W)=>cons_any B _ ns W (hr.below (hW.mono hB)) (Nat.le_trans hB hW.size) hl hnl)
 have HG:=Lib.hid (fun W (hW:Below w.heap.size w W)=>(show W.cell? ⟨g,0,none⟩=some (.map (some mb))∧W.cell? ⟨g,3,none⟩=some (.bool st) from ⟨by rw [hW.cell (p:=⟨g,0,none⟩) hg];exact h0,by rw [hW.cell (p:=⟨g,3,none⟩) hg];exact h3⟩))
 have HL:=Lib.hid hlook
 have HB0:=Lib.hid hb0
 have HF0:=Lib.hid hf0
 rw [hx] at HN HL
 rw [hx]
 generalize namedL n=bn at *
 generalize ns.any (fun n => !namedL n)=bo at *
 have hs0:W0.heap.size=w.heap.size+1:=by rw [← hW0];simp
 clear hr hnl hlook hx h0 h3 hb0 hf0 hbx
 have HW0:=Lib.hid hW0
 have HS0:=Lib.hid hs0
 clear hW0 hs0
 go_enter Tryz.func64,Tryz.ntmps64
 go_wp2_with fail
 rw [HW0.out]
 refine HM.out.mono ?_
 rintro e w' ⟨rfl,rfl⟩
 go_wp2_with fail
 refine HN.out.mono ?_
 rintro e W1 ⟨rfl,hb1⟩
 have hs0:=HS0.out
 have hbw1:=HB0.out.trans (hb1.mono (by omega))
 have hf1:=HF0.out.below hb1 HF0.out.lt
 have HB1:=Lib.hid hbw1
 have HF1:=Lib.hid hf1
 clear hb1 hbw1 hf1 HM HN
 cases bn with
 | false =>
   have c0:=HF1.out.f0
   have c1:=HF1.out.f1
   have c2:=fun k=>HF1.out.free k
   have HE:=Lib.hid (show FV _ _ _ _ from HF1.out.two (.slice none 0 0) 0)
   have HBE:=Lib.hid (show Below w.heap.size w _ from (HB1.out.setCell (p:=⟨w.heap.size,0,none⟩) (Nat.le_refl _) (.slice none 0 0)).setCell (p:=⟨w.heap.size,1,none⟩) (Nat.le_refl _) (.int .i64 0))
   go_wp2_with fail
   refine bodyPost_ret (results_file_tmp rfl _ _ w.heap.size _ _ rfl HE.out) rfl ?_
   exact ⟨rfl,HBE.out⟩
 | true =>
   go_wp2_with fail
   refine (HC.out _ HB1.out).mono ?_
   rintro e W2 ⟨rfl,hb2⟩
   have hbw2:=HB1.out.trans (hb2.mono HB1.out.size)
   have hf2:=HF1.out.below hb2 HF1.out.lt
   have HB2:=Lib.hid hbw2
   have HF2:=Lib.hid hf2
   have c0:=HF2.out.f0
   have c1:=HF2.out.f1
   have c2:=fun k=>HF2.out.free k
   obtain ⟨h0,h3⟩:=HG.out W2 HB2.out
   have hlt2:=HF2.out.lt
   clear hb2 hbw2 hf2 HC HB1 HF1
   cases bo with
   | true =>
     have HE:=Lib.hid (show FV _ _ _ _ from HF2.out.two (.slice none 0 0) 0)
     have HBE:=Lib.hid (show Below w.heap.size w _ from (HB2.out.setCell (p:=⟨w.heap.size,0,none⟩) (Nat.le_refl _) (.slice none 0 0)).setCell (p:=⟨w.heap.size,1,none⟩) (Nat.le_refl _) (.int .i64 0))
     go_wp2_with fail
     refine bodyPost_ret (results_file_tmp rfl _ _ w.heap.size _ _ rfl HE.out) rfl ?_
     exact ⟨rfl,HBE.out⟩
   | false =>
     cases st with
     | true =>
       have HE:=Lib.hid (show FV _ _ _ _ from HF2.out.two (.slice none 0 0) 0)
       have HBE:=Lib.hid (show Below w.heap.size w _ from (HB2.out.setCell (p:=⟨w.heap.size,0,none⟩) (Nat.le_refl _) (.slice none 0 0)).setCell (p:=⟨w.heap.size,1,none⟩) (Nat.le_refl _) (.int .i64 0))
       go_wp2_with fail
       refine bodyPost_ret (results_file_tmp rfl _ _ w.heap.size _ _ rfl HE.out) rfl ?_
       exact ⟨rfl,HBE.out⟩
     | false =>
       have hlk:=HL.out W2 HB2.out
       cases there with
       | false =>
         have HE:=Lib.hid (show ∀ o,FV (World.alloc _ o) _ _ _ from fun o=>(HF2.out.two (.slice none 0 0) 0).below ((Below.refl _ _).alloc (Nat.le_refl _) o) (by simp;omega))
         have HBE:=Lib.hid (show ∀ o,Below w.heap.size w (World.alloc _ o) from fun o=>((HB2.out.setCell (p:=⟨w.heap.size,0,none⟩) (Nat.le_refl _) (.slice none 0 0)).setCell (p:=⟨w.heap.size,1,none⟩) (Nat.le_refl _) (.int .i64 0)).alloc (by simp;omega) o)
         go_wp2_with fail
         refine bodyPost_ret (results_file_tmp rfl _ _ w.heap.size _ _ rfl (HE.out _)) rfl ?_
         exact ⟨rfl,HBE.out _⟩
       | true =>
         have HE:=Lib.hid (show ∀ o,FV (World.alloc _ o) _ _ _ from fun o=>(HF2.out.two (.slice p m cap) s).below ((Below.refl _ _).alloc (Nat.le_refl _) o) (by simp;omega))
         have HBE:=Lib.hid (show ∀ o,Below w.heap.size w (World.alloc _ o) from fun o=>((HB2.out.setCell (p:=⟨w.heap.size,0,none⟩) (Nat.le_refl _) (.slice p m cap)).setCell (p:=⟨w.heap.size,1,none⟩) (Nat.le_refl _) (.int .i64 s)).alloc (by simp;omega) o)
         go_wp2_with fail
         refine bodyPost_ret (results_file_tmp rfl _ _ w.heap.size _ _ rfl (HE.out _)) rfl ?_
         exact ⟨rfl,HBE.out _⟩
end Go.Proofs.YtdfibahafilklaaGreatDoor.DK
namespace Go.Proofs.YtdfibahafilklaaGreatDoor.DK
open Go.RowKit MM Go.Maps
theorem own_slice {B:Nat} {w:World} {v:Value} {l:List UInt8} (h:OwnB B w v l):∃ p cap,v=.slice p l.length cap∧l.length≤cap∧cap≤maxLen:=h.brow.shape
theorem wpList_append_content {w:World} {ops:Array Oper} {rest:List Oper} {o:Oper} {a:Act} {Q:Exit→Act→World→Prop} (hgd:o.guard=none) (s x:Operand)
  (ho:o.op=.call { callee:=.builtin .append,args:=#[s,x],argTypes:=#[125,31] }) (v:Value) (l:List UInt8) (hs:a.eval s=v) (hown:OwnB 0 w v l)
  (src:Value) (m:List UInt8) (hx:a.eval x=src) (hr:BRow w src m) (hlen:l.length+m.length≤140737488355328)
  (h:∀ v' w',OwnB 0 w' v' (l++m)→w.grownBy w' v.ownBlock→(v'.ownBlock=v.ownBlock∨v'.ownBlock=some w.heap.size)→wpList Tryz.prog ops Q rest (a.put o.dst v') w'):wpList Tryz.prog ops Q (o::rest) a w:=by
 refine wpList_plain hgd fun K hK => ?_
 obtain ⟨v',w',hrun,h1,h2,h3⟩:=run_append_content o.type hown hr hlen
 unfold Oper.wp execOp
 simp only [ho,resolve,invoke,builtin,Sem.run_bind,Sem.run_pure,Result.andThen_ok,List.map_toArray,List.map_cons,List.map_nil,hs,hx,hrun]
 exact hK _ _ (h v' w' h1 h2 h3)
def LongerLeft (v:Value) (l:List UInt8) (s:Int) (w:World) (e:Ending) (w':World):Prop :=
 ∃ v',e=.returned (.agg #[v',.int .i64 s])∧OwnB 0 w' v' l∧Kep (fun k=>v.ownBlock≠some k) w w'∧∀ k,v'.ownBlock=some k→v.ownBlock=some k∨w.heap.size≤k
theorem longer_any (v src:Value) (l m:List UInt8) (s:Int) (w:World) (hv:OwnB 0 w v l) (hr:BRow w src m) (hlen:l.length+m.length≤1000000000000):Calls Tryz.prog 67 #[.agg #[v,.int .i64 s],src] w (LongerLeft v (l++m) s w):=by
 obtain ⟨R,hR⟩:∃ R,l++m=R:=⟨_,rfl⟩
 rw [hR]
 have HRR:=Lib.hid hR
 clear hR
 obtain ⟨p,cap,rfl,_,_⟩:=own_slice hv
 obtain ⟨ps,caps,rfl,_,_⟩:=hr.shape
 obtain ⟨W,hW⟩:∃ W,(w.alloc (.cells #[.slice p l.length cap,.int .i64 s] 127)).alloc (.cells #[.slice none 0 0,.int .i64 0] 127)=W:=⟨_,rfl⟩
 have hs:W.heap.size=w.heap.size+2:=by rw [← hW];simp
 have hb:Below w.heap.size w W:=by rw [← hW];exact ((Below.refl _ _).alloc (Nat.le_refl _) _).alloc (by simp) _
 have hf:FV W w.heap.size (.slice p l.length cap) s:=by rw [← hW];exact (fv_new w _ s).below ((Below.refl _ _).alloc (Nat.le_refl _) _) (by simp)
 have hg:FV W (w.heap.size+1) (.slice none 0 0) 0:=by
  have:=fv_new (w.alloc (.cells #[.slice p l.length cap,.int .i64 s] 127)) (.slice none 0 0) 0
  rw [hW,show (w.alloc (.cells #[.slice p l.length cap,.int .i64 s] 127)).heap.size=w.heap.size+1 by simp] at this
  exact this
 have hold:∀ k,(Value.slice p l.length cap).ownBlock=some k→k<w.heap.size:=fun k hk=>(World.ownsRow.lt hv k hk).2
 have hb2:∀ o1 o2,Below w.heap.size w ((w.alloc o1).alloc o2):=fun o1 o2=>((Below.refl _ _).alloc (Nat.le_refl _) _).alloc (by simp) _
 have HV:=Lib.hid (fun o1 o2=>hv.keep (hb2 o1 o2))
 have HR:=Lib.hid (fun o1 o2=>hr.below (hb2 o1 o2))
 have HB:=Lib.hid hb
 have HO:=Lib.hid hold
 have HF:=Lib.hid hf
 have HG:=Lib.hid hg
 have c0:=hf.f0
 have c1:=hf.f1
 have HW:=Lib.hid hW
 have HS:=Lib.hid hs
 clear hW hb hf hg hv hr hold hs hb2 c0 c1
 go_enter Tryz.func67,Tryz.ntmps67
 go_wp2_with (at_builtin;go_loud (refine wpList_append_content rfl _ _ rfl _ l rfl (HV.out _ _) _ m rfl (HR.out _ _) (by omega) ?_))
 intro v1 W1 hown hgr hlies
 rw [HW.out] at hgr
 rw [HRR.out] at hown
 have hs:=HS.out
 have hk1:Kep (fun k=>(Value.slice p l.length cap).ownBlock≠some k) W W1:=kep_grown hgr (fun k e h=>h e)
 have hne:∀ k,w.heap.size≤k→(Value.slice p l.length cap).ownBlock≠some k:=fun k hk e=>by have:=HO.out k e;omega
 have hf1:=HF.out.kep hk1 (hne _ (Nat.le_refl _))
 have hg1:=HG.out.kep hk1 (hne _ (Nat.le_succ _))
 obtain ⟨p1,cap1,rfl,_,_⟩:=own_slice hown
 have c0:=hf1.f0
 have c1:=hf1.f1
 have c2:=fun k=>hf1.free k
 have d0:=hg1.f0
 have d1:=hg1.f1
 have d2:=fun k=>hg1.free k
 have hsz1:=hk1.size
 have hf2:FV (W1.setCell ⟨w.heap.size,0,none⟩ (.slice p1 R.length cap1)) w.heap.size (.slice p1 R.length cap1) s:=heap_setCell_same W1 w.heap.size 0 _ _ (.slice p1 R.length cap1) hf1
 have hg2:FV (W1.setCell ⟨w.heap.size,0,none⟩ (.slice p1 R.length cap1)) (w.heap.size+1) (.slice none 0 0) 0:=(Below.heap_setCell _ _ _ _ (fun e=>by have e:w.heap.size+1=w.heap.size:=e;omega)).trans hg1
 have hblk:∀ k,(Value.slice p1 R.length cap1).ownBlock=some k→k≠w.heap.size∧k≠w.heap.size+1:=fun k hk=>by
  rcases hlies with h | h
  ·rw [h] at hk
   have:=HO.out k hk
   omega
  ·rw [h] at hk
   have:=Option.some.inj hk
   omega
 have key:∀ g i u,(g=w.heap.size∨g=w.heap.size+1)→Kep (fun k=>k≠w.heap.size∧k≠w.heap.size+1) W1 W1→∀ W2:World,Kep (fun k=>k≠w.heap.size∧k≠w.heap.size+1) W1 W2→Kep (fun k=>k≠w.heap.size∧k≠w.heap.size+1) W1 (W2.setCell ⟨g,i,none⟩ u):=fun g i u hg _ W2 h=>h.trans (kep_set (fun h=>by rcases hg with e | e<;>omega) u)
 have HK:=Lib.hid (show Kep (fun k=>k≠w.heap.size∧k≠w.heap.size+1) W1 _ from key (w.heap.size+1) 1 (.int .i64 s) (.inr rfl) (Kep.refl _ _) _ (key (w.heap.size+1) 0 (.slice p1 R.length cap1) (.inr rfl) (Kep.refl _ _) _ (key w.heap.size 0 (.slice p1 R.length cap1) (.inl rfl) (Kep.refl _ _) _ (Kep.refl _ _))))
 have HE:=Lib.hid (hg2.two (.slice p1 R.length cap1) s)
 have HOWN:=Lib.hid hown
 have HBLK:=Lib.hid hblk
 have HL:=Lib.hid hlies
 have HK1:=Lib.hid hk1
 clear hown hgr hlies hk1 hne hf1 hg1 hf2 hg2 hblk key hsz1
 go_wp2_with fail
 refine bodyPost_ret (v:=.agg #[.slice p1 R.length cap1,.int .i64 s]) (results_cell_row rfl _ _ (w.heap.size+1) 127 _ (0,0) _ rfl HE.out Tryz.underlying127 rfl infoCFile) rfl ⟨_,rfl,OwnB.kepB HOWN.out HK.out HBLK.out,?_,fun k hk => ?_⟩
 ·exact ((kep_below _ HB.out).trans HK1.out).andThen HK.out fun k hk _=>by omega
 ·rcases HL.out with h | h
  ·exact .inl (by rw [← h];exact hk)
  ·rw [h] at hk
   have:=Option.some.inj hk
   exact .inr (by omega)
end Go.Proofs.YtdfibahafilklaaGreatDoor.DK
namespace Go.Proofs.YtdfibahafilklaaGreatDoor.DK
open Go.RowKit MM Go.Maps
def curV (d:DiskD) (V:List UInt8→Value) (n:List UInt8):Value:=if (findL d.L n).isSome then V n else .slice none 0 0
def curS (d:DiskD) (n:List UInt8):Nat:=((findL d.L n).map (·.sure)).getD 0
def curB (d:DiskD) (n:List UInt8):List UInt8:=((findL d.L n).map (·.b)).getD []
theorem cur_tab (d:DiskD) (V:List UInt8→Value) (n:List UInt8):(tabF d.L V n).getD zeroFile=.agg #[curV d V n,.int .i64 (curS d n:Int)]∧(tabF d.L V n).isSome=(findL d.L n).isSome:=by
 unfold tabF curV curS
 cases findL d.L n<;>exact ⟨rfl,rfl⟩
theorem own_nil (w:World):OwnB 0 w (.slice none 0 0) []:=World.ownsRow_nil _ _ _ _
theorem cur_own {S:Nat→Prop} {w:World} {mb:Nat} {V:List UInt8→Value} {d:DiskD} (h:Tab S w mb V d.L) (n:List UInt8):OwnB 0 w (curV d V n) (curB d n):=by
 unfold curV curB
 cases hf:findL d.L n with
 | none=>exact own_nil w
 | some f =>
   have:=h.own f (find_mem hf).1
   rw [(find_mem hf).2] at this
   exact this
theorem CObj.look_ok {S:Nat→Prop} {w:World} {g mb:Nat} {V:List UInt8→Value} {c:Int} {d:DiskD} (h:CObj S w g mb V c d) (n:List UInt8) (hn:n.length≤1000000000000) :
  (Instr.lookup 109 (.map (some mb)) (.string ⟨n.toArray⟩) true).run Tryz.prog w=.ok (.tuple #[.agg #[curV d V n,.int .i64 (curS d n:Int)],.bool (findL d.L n).isSome]) w:=by
 have:=h.tab.map.look_ok n (by unfold maxLen;omega)
 rw [(cur_tab d V n).1,(cur_tab d V n).2] at this
 exact this
theorem cfind_any (S:Nat→Prop) (B g mb:Nat) (V:List UInt8→Value) (c:Int) (d:DiskD) (others:Value) (ns:List (List UInt8)) (n:List UInt8) (w:World) (h:CObj S w g mb V c d) (hB:B≤w.heap.size) (hn:n.length≤1000000000000) (hr:SIn B w others ns)
  (hl:ns.length≤1000000000000) (hnl:∀ n∈ns,n.length≤1000000000000) :
  Calls Tryz.prog 64 #[.pointer (some ⟨g,0,none⟩),.string ⟨n.toArray⟩,others] w (FindC (namedL n && !ns.any (fun n => !namedL n)) d.stopped (findL d.L n).isSome (curV d V n) (curS d n) w):=by
 obtain ⟨p,cap,hv,_,_⟩:=own_slice (cur_own h.tab n)
 have hlook:=fun W (hW:Below w.heap.size w W)=>(h.below hW).look_ok n hn
 rw [hv] at hlook ⊢
 exact find_raw B g mb others ns n _ _ p _ cap _ w hB h.glt h.g0 h.g3 hn hr hl hnl hlook
end Go.Proofs.YtdfibahafilklaaGreatDoor.DK
