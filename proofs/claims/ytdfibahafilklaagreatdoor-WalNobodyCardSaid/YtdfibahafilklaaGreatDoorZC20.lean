import Derived.Test.YtdfibahafilklaaGreatDoorZC19
set_option maxRecDepth 100000
set_option maxHeartbeats 8000000
set_option linter.unusedVariables false
set_option linter.unusedSimpArgs false
namespace Go.Proofs.YtdfibahafilklaaGreatDoor.DK
open Go.RowKit MM Go.Maps
theorem own_slice {B:Nat} {w:World} {v:Value} {l:List UInt8} (h:OwnB B w v l):∃ p cap,v=.slice p l.length cap∧l.length≤cap∧cap≤maxLen:=h.brow.shape
theorem wpList_append_content {w:World} {ops:Array Oper} {rest:List Oper} {o:Oper} {a:Act} {Q:Exit→Act→World→Prop} (hgd:o.guard=none) (s x:Operand)
  (ho:o.op=.call { callee:=.builtin .append,args:=#[s,x],argTypes:=#[125,31] }) (v:Value) (l:List UInt8) (hs:a.eval s=v) (hown:OwnB 0 w v l)
  (src:Value) (m:List UInt8) (hx:a.eval x=src) (hr:BRow w src m) (hlen:l.length+m.length≤140737488355328)
  (h:∀ v' w',OwnB 0 w' v' (l++m)→w.grownBy w' v.ownBlock→(v'.ownBlock=v.ownBlock∨v'.ownBlock=some w.heap.size)→wpList Tryz.prog ops Q rest (a.put o.dst v') w'):wpList Tryz.prog ops Q (o::rest) a w:=by
 refine wpList_plain hgd fun K hK => ?_
 obtain ⟨v',w',hrun,h1,h2,h3⟩:=run_append_content o.type hown hr hlen
 unfold Oper.wp execOp
 simp only [ho,resolve,invoke,builtin,Sem.run_bind,Sem.run_pure,Result.andThen_ok,List.map_toArray,List.map_cons,List.map_nil,hs,hx,hrun]
 exact hK _ _ (h v' w' h1 h2 h3)
def LongerLeft (v:Value) (l:List UInt8) (s:Int) (w:World) (e:Ending) (w':World):Prop :=
 ∃ v',e=.returned (.agg #[v',.int .i64 s])∧OwnB 0 w' v' l∧Kep (fun k=>v.ownBlock≠some k) w w'∧∀ k,v'.ownBlock=some k→v.ownBlock=some k∨w.heap.size≤k
theorem longer_any (v src:Value) (l m:List UInt8) (s:Int) (w:World) (hv:OwnB 0 w v l) (hr:BRow w src m) (hlen:l.length+m.length≤1000000000000):Calls Tryz.prog 67 #[.agg #[v,.int .i64 s],src] w (LongerLeft v (l++m) s w):=by
 obtain ⟨R,hR⟩:∃ R,l++m=R:=⟨_,rfl⟩
 rw [hR]
 have HRR:=Lib.hid hR
 clear hR
 obtain ⟨p,cap,rfl,_,_⟩:=own_slice hv
 obtain ⟨ps,caps,rfl,_,_⟩:=hr.shape
 obtain ⟨W,hW⟩:∃ W,(w.alloc (.cells #[.slice p l.length cap,.int .i64 s] 127)).alloc (.cells #[.slice none 0 0,.int .i64 0] 127)=W:=⟨_,rfl⟩
 have hs:W.heap.size=w.heap.size+2:=by rw [← hW];simp
 have hb:Below w.heap.size w W:=by rw [← hW];exact ((Below.refl _ _).alloc (Nat.le_refl _) _).alloc (by simp) _
 have hf:FV W w.heap.size (.slice p l.length cap) s:=by rw [← hW];exact (fv_new w _ s).below ((Below.refl _ _).alloc (Nat.le_refl _) _) (by simp)
 have hg:FV W (w.heap.size+1) (.slice none 0 0) 0:=by
  have:=fv_new (w.alloc (.cells #[.slice p l.length cap,.int .i64 s] 127)) (.slice none 0 0) 0
  rw [hW,show (w.alloc (.cells #[.slice p l.length cap,.int .i64 s] 127)).heap.size=w.heap.size+1 by simp] at this
  exact this
 have hold:∀ k,(Value.slice p l.length cap).ownBlock=some k→k<w.heap.size:=fun k hk=>(World.ownsRow.lt hv k hk).2
 have hb2:∀ o1 o2,Below w.heap.size w ((w.alloc o1).alloc o2):=fun o1 o2=>((Below.refl _ _).alloc (Nat.le_refl _) _).alloc (by simp) _
 have HV:=Lib.hid (fun o1 o2=>hv.keep (hb2 o1 o2))
 have HR:=Lib.hid (fun o1 o2=>hr.below (hb2 o1 o2))
 have HB:=Lib.hid hb
 have HO:=Lib.hid hold
 have HF:=Lib.hid hf
 have HG:=Lib.hid hg
 have c0:=hf.f0
 have c1:=hf.f1
 have HW:=Lib.hid hW
 have HS:=Lib.hid hs
 clear hW hb hf hg hv hr hold hs hb2 c0 c1
 go_enter Tryz.func67,Tryz.ntmps67
 go_wp2_with (at_builtin;go_loud (refine wpList_append_content rfl _ _ rfl _ l rfl (HV.out _ _) _ m rfl (HR.out _ _) (by omega) ?_))
 intro v1 W1 hown hgr hlies
 rw [HW.out] at hgr
 rw [HRR.out] at hown
 have hs:=HS.out
 have hk1:Kep (fun k=>(Value.slice p l.length cap).ownBlock≠some k) W W1:=kep_grown hgr (fun k e h=>h e)
 have hne:∀ k,w.heap.size≤k→(Value.slice p l.length cap).ownBlock≠some k:=fun k hk e=>by have:=HO.out k e;omega
 have hf1:=HF.out.kep hk1 (hne _ (Nat.le_refl _))
 have hg1:=HG.out.kep hk1 (hne _ (Nat.le_succ _))
 obtain ⟨p1,cap1,rfl,_,_⟩:=own_slice hown
 have c0:=hf1.f0
 have c1:=hf1.f1
 have c2:=fun k=>hf1.free k
 have d0:=hg1.f0
 have d1:=hg1.f1
 have d2:=fun k=>hg1.free k
 have hsz1:=hk1.size
 have hf2:FV (W1.setCell ⟨w.heap.size,0,none⟩ (.slice p1 R.length cap1)) w.heap.size (.slice p1 R.length cap1) s:=heap_setCell_same W1 w.heap.size 0 _ _ (.slice p1 R.length cap1) hf1
 have hg2:FV (W1.setCell ⟨w.heap.size,0,none⟩ (.slice p1 R.length cap1)) (w.heap.size+1) (.slice none 0 0) 0:=(Below.heap_setCell _ _ _ _ (fun e=>by have e:w.heap.size+1=w.heap.size:=e;omega)).trans hg1
 have hblk:∀ k,(Value.slice p1 R.length cap1).ownBlock=some k→k≠w.heap.size∧k≠w.heap.size+1:=fun k hk=>by
  rcases hlies with h | h
  ·rw [h] at hk
   have:=HO.out k hk
   omega
  ·rw [h] at hk
   have:=Option.some.inj hk
   omega
 have key:∀ g i u,(g=w.heap.size∨g=w.heap.size+1)→Kep (fun k=>k≠w.heap.size∧k≠w.heap.size+1) W1 W1→∀ W2:World,Kep (fun k=>k≠w.heap.size∧k≠w.heap.size+1) W1 W2→Kep (fun k=>k≠w.heap.size∧k≠w.heap.size+1) W1 (W2.setCell ⟨g,i,none⟩ u):=fun g i u hg _ W2 h=>h.trans (kep_set (fun h=>by rcases hg with e | e<;>omega) u)
 have HK:=Lib.hid (show Kep (fun k=>k≠w.heap.size∧k≠w.heap.size+1) W1 _ from key (w.heap.size+1) 1 (.int .i64 s) (.inr rfl) (Kep.refl _ _) _ (key (w.heap.size+1) 0 (.slice p1 R.length cap1) (.inr rfl) (Kep.refl _ _) _ (key w.heap.size 0 (.slice p1 R.length cap1) (.inl rfl) (Kep.refl _ _) _ (Kep.refl _ _))))
 have HE:=Lib.hid (hg2.two (.slice p1 R.length cap1) s)
 have HOWN:=Lib.hid hown
 have HBLK:=Lib.hid hblk
 have HL:=Lib.hid hlies
 have HK1:=Lib.hid hk1
 clear hown hgr hlies hk1 hne hf1 hg1 hf2 hg2 hblk key hsz1
 go_wp2_with fail
 refine bodyPost_ret (v:=.agg #[.slice p1 R.length cap1,.int .i64 s]) (results_cell_row rfl _ _ (w.heap.size+1) 127 _ (0,0) _ rfl HE.out Tryz.underlying127 rfl infoCFile) rfl ⟨_,rfl,OwnB.kepB HOWN.out HK.out HBLK.out,?_,fun k hk => ?_⟩
 ·exact ((kep_below _ HB.out).trans HK1.out).andThen HK.out fun k hk _=>by omega
 ·rcases HL.out with h | h
  ·exact .inl (by rw [← h];exact hk)
  ·rw [h] at hk
   have:=Option.some.inj hk
   exact .inr (by omega)
end Go.Proofs.YtdfibahafilklaaGreatDoor.DK
namespace Go.Proofs.YtdfibahafilklaaGreatDoor.DK
open Go.RowKit MM Go.Maps
def curV (d:DiskD) (V:List UInt8→Value) (n:List UInt8):Value:=if (findL d.L n).isSome then V n else .slice none 0 0
def curS (d:DiskD) (n:List UInt8):Nat:=((findL d.L n).map (·.sure)).getD 0
def curB (d:DiskD) (n:List UInt8):List UInt8:=((findL d.L n).map (·.b)).getD []
theorem cur_tab (d:DiskD) (V:List UInt8→Value) (n:List UInt8):(tabF d.L V n).getD zeroFile=.agg #[curV d V n,.int .i64 (curS d n:Int)]∧(tabF d.L V n).isSome=(findL d.L n).isSome:=by
 unfold tabF curV curS
 cases findL d.L n<;>exact ⟨rfl,rfl⟩
theorem own_nil (w:World):OwnB 0 w (.slice none 0 0) []:=World.ownsRow_nil _ _ _ _
theorem cur_own {S:Nat→Prop} {w:World} {mb:Nat} {V:List UInt8→Value} {d:DiskD} (h:Tab S w mb V d.L) (n:List UInt8):OwnB 0 w (curV d V n) (curB d n):=by
 unfold curV curB
 cases hf:findL d.L n with
 | none=>exact own_nil w
 | some f =>
   have:=h.own f (find_mem hf).1
   rw [(find_mem hf).2] at this
   exact this
theorem CObj.look_ok {S:Nat→Prop} {w:World} {g mb:Nat} {V:List UInt8→Value} {c:Int} {d:DiskD} (h:CObj S w g mb V c d) (n:List UInt8) (hn:n.length≤1000000000000) :
  (Instr.lookup 109 (.map (some mb)) (.string ⟨n.toArray⟩) true).run Tryz.prog w=.ok (.tuple #[.agg #[curV d V n,.int .i64 (curS d n:Int)],.bool (findL d.L n).isSome]) w:=by
 have:=h.tab.map.look_ok n (by unfold maxLen;omega)
 rw [(cur_tab d V n).1,(cur_tab d V n).2] at this
 exact this
theorem cfind_any (S:Nat→Prop) (B g mb:Nat) (V:List UInt8→Value) (c:Int) (d:DiskD) (others:Value) (ns:List (List UInt8)) (n:List UInt8) (w:World) (h:CObj S w g mb V c d) (hB:B≤w.heap.size) (hn:n.length≤1000000000000) (hr:SIn B w others ns)
  (hl:ns.length≤1000000000000) (hnl:∀ n∈ns,n.length≤1000000000000) :
  Calls Tryz.prog 64 #[.pointer (some ⟨g,0,none⟩),.string ⟨n.toArray⟩,others] w (FindC (namedL n && !ns.any (fun n => !namedL n)) d.stopped (findL d.L n).isSome (curV d V n) (curS d n) w):=by
 obtain ⟨p,cap,hv,_,_⟩:=own_slice (cur_own h.tab n)
 have hlook:=fun W (hW:Below w.heap.size w W)=>(h.below hW).look_ok n hn
 rw [hv] at hlook ⊢
 exact find_raw B g mb others ns n _ _ p _ cap _ w hB h.glt h.g0 h.g3 hn hr hl hnl hlook
end Go.Proofs.YtdfibahafilklaaGreatDoor.DK
