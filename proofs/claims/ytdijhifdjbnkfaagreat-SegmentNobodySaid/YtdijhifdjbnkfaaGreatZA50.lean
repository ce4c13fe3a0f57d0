/-
  
-/
import Derived.Test.YtdijhifdjbnkfaaGreatZA20
import Derived.Test.YtdijhifdjbnkfaaGreatZA9
import Derived.Test.YtdijhifdjbnkfaaGreatZA28
import Derived.Test.YtdijhifdjbnkfaaGreatZA18
import Derived.Test.YtdijhifdjbnkfaaGreatZA48
import Derived.Test.YtdijhifdjbnkfaaGreatZA19
import Derived.Test.YtdijhifdjbnkfaaGreatZA15
import Derived.Test.YtdijhifdjbnkfaaGreatZA49
import Derived.Test.YtdijhifdjbnkfaaGreatZA8
import Derived.Test.YtdijhifdjbnkfaaGreatZA47
import Derived.Test.YtdijhifdjbnkfaaGreatZA3
import Derived.OwnWalkIn
set_option linter.unusedVariables false
namespace Go.Proofs.YtdijhifdjbnkfaaGreat.EV
open Go Go.RowKit Go.Proofs.YtdijhifdjbnkfaaGreat.MM Go.Proofs.YtdijhifdjbnkfaaGreat.EM Go.Proofs.YtdijhifdjbnkfaaGreat.VM
theorem infoEv2:(Tryz.prog.info? 57).map (·.size)=some 2:=by kernel_rfl
def IsF (w:World) (b:Nat):Prop:=∃ cur fr,w.heap[b]? = some (.cells cur 123 fr)
def NewF (w w':World) (b:Nat):Prop:=w.heap.size≤b∧IsF w' b
theorem IsF.keep {S:Nat→Prop} {w w':World} {b:Nat} (h:IsF w b) (hk:Kep S w w') (hb:S b):IsF w' b:=by
 obtain ⟨cur,fr,h⟩:=h
 exact ⟨cur,fr,(hk.block b (Array.getElem?_eq_some_iff.1 h).1 hb).trans h⟩
theorem IsF.lt {w:World} {b:Nat} (h:IsF w b):b<w.heap.size:=by obtain ⟨_,_,h⟩:=h;exact (Array.getElem?_eq_some_iff.1 h).1
def EvTook (B g:Nat) (s:Ev×List UInt8×Bool) (w:World) (e:Ending) (w':World):Prop :=
 ∃ u,e=.returned (.agg #[.int .i64 s.1.1,u])∧ROn fldC (NewF w w') w' u s.1.2∧Rd B w' g s.2.1 s.2.2∧Kep (fun b=>b≠g) w w'
set_option maxRecDepth 100000 in
set_option maxHeartbeats 2000000 in
theorem event_any (B g:Nat) (l:List UInt8) (o:Bool) (w:World) (h:Rd B w g l o) (hB:B≤g):Calls Tryz.prog 267 #[.pointer (some ⟨g,0,none⟩)] w (EvTook B g (evSt l o) w):=by
 have hmx:Tryz.prog.follows .mixedOrders=true:=by kernel_rfl
 have hg:=h.lt
 have hlen:=evSt_len l o
 obtain ⟨z,l1,o1,ht⟩:∃ z l1 o1,timSt l o=(z,l1,o1):=⟨_,_,_,rfl⟩
 obtain ⟨N,l2,o2,hn⟩:∃ N l2 o2,numSt 16 l1 o1=(N,l2,o2):=⟨_,_,_,rfl⟩
 have hN:N≤16:=by have:=num_le 16 l1 o1;rw [hn] at this;exact this
 have hst:evSt l o=((z,(fldsN N ([],l2,o2)).1),(fldsN N ([],l2,o2)).2.1,(fldsN N ([],l2,o2)).2.2):=by
  unfold evSt
  rw [ht]
  dsimp only
  rw [hn]
 have HST:=Lib.hid hst
 have hb0:Below w.heap.size w (w.alloc (.cells #[.int .i64 0,.slice none 0 0] 57)):=(Below.refl _ _).alloc (Nat.le_refl _) _
 have hsz0:(w.alloc (.cells #[.int .i64 0,.slice none 0 0] 57)).heap.size=w.heap.size+1:=by simp
 have hr0:=h.keep (S:=fun _=>True) (kep_below _ hb0) trivial (fun _ _=>trivial) (by omega)
 have HT:=Lib.hid (time_any B g l o _ hr0 hB)
 rw [ht] at HT
 have HN:=Lib.hid (fun W (h:Rd B W g l1 o1)=>(show Calls Tryz.prog 277 #[.pointer (some ⟨g,0,none⟩),.int .i64 16] W (Took B g (.int .i64 N) l2 o2 W) from by have:=number_any B g 16 l1 o1 W (by omega) h hB;rw [hn] at this;exact this))
 have n0:=heap_alloc_new w (.cells #[.int .i64 0,.slice none 0 0] 57)
 clear h hst ht hn hr0
 go_enter Tryz.func267,Tryz.ntmps267
 go_wp2_with fail
 refine HT.out.mono ?_
 rintro e w1 ⟨rfl,hr1,hk1⟩
 have hs1:=hk1.size
 have a0:=(hk1.block w.heap.size (by simp) (by omega)).trans n0
 have hk01:Kep (fun b=>b≠g) w w1:=(kep_below _ hb0).trans hk1
 have HR1:=Lib.hid hr1
 have HK1:=Lib.hid hk01
 have A0:=Lib.hid a0
 rw [hsz0] at hs1
 clear hr1 hk1 n0 a0 hk01 hb0 hsz0 HT
 go_wp2_with fail
 obtain ⟨q,hq⟩:∃ q,w1.heap.size=q:=⟨_,rfl⟩
 rw [hq]
 have hqR:w.heap.size<q:=by omega
 have n1:=heap_alloc_new w1 (.cells #[.int .i64 z,.slice none 0 0] 57)
 rw [hq] at n1
 have hka:Kep (fun b=>b≠g) w1 (w1.alloc (.cells #[.int .i64 z,.slice none 0 0] 57)):=kep_alloc _ _ _
 have HN2:=Lib.hid (HN.out (w1.alloc (.cells #[.int .i64 z,.slice none 0 0] 57)) (HR1.out.keep (S:=fun _=>True) (kep_alloc _ _ _) trivial (fun _ _=>trivial) (by omega)))
 have hsa:(w1.alloc (.cells #[.int .i64 z,.slice none 0 0] 57)).heap.size=q+1:=by simp [hq]
 refine HN2.out.mono ?_
 rintro e w3 ⟨rfl,hr3,hk3⟩
 have b0:=(hk3.block q (by omega) (by omega)).trans n1
 have a3:=((hka.trans hk3).block w.heap.size (by omega) (by omega)).trans A0.out
 have hs3:=hk3.size
 rw [hsa] at hs3
 have HR3:=Lib.hid hr3
 have HK3:=Lib.hid (HK1.out.trans (hka.trans hk3))
 have HA3:=Lib.hid a3
 have HB3:=Lib.hid b0
 have HO3:=Lib.hid (OwnX.nil_ (C:=fldC) 123 (q+1) (fun _=>False) w3)
 clear hr3 hk3 hka n1 b0 a3 HN HN2 A0 HK1 HR1 hsa hq
 go_wp2_with fail
 go_loopw [4,10] (fun _ iv wr=>∃ (i:Nat) (u:Value),i≤N∧iv=.int .i64 i∧Hid (OwnX fldC 123 (q+1) (fun _=>False) wr u (fldsN i ([],l2,o2)).1)∧Hid (wr.heap[q]? = some (.cells #[.int .i64 z,u] 57 (0,0)))∧Hid (wr.heap[w.heap.size]? = some (.cells #[.int .i64 0,.slice none 0 0] 57 (0,0)))∧Hid (Rd B wr g (fldsN i ([],l2,o2)).2.1 (fldsN i ([],l2,o2)).2.2)∧Hid (Kep (fun b=>b≠g) w wr)) (fun _ iv _=>N - (intOf iv).toNat)
 case atStart=>exact ⟨0,_,by omega,rfl,HO3,HB3,HA3,HR3,HK3⟩
 case round =>
  obtain ⟨i,u,hi,rfl,HO,HBX,HA,HR,HK⟩:=hrel
  clear HO3 HB3 HA3 HR3 HK3
  have hqw:q<wr.heap.size:=(Array.getElem?_eq_some_iff.1 HBX.out).1
  have hlt9:=fldsN_len i ([],l2,o2)
  by_cases hlt:i<N
  ·have q1:decide ((i:Int)<(N:Int))=true:=by rw [decide_eq_true_eq];omega
   obtain ⟨fs,li,oi,hsi⟩:∃ fs li oi,fldsN i ([],l2,o2)=(fs,li,oi):=⟨_,_,_,rfl⟩
   obtain ⟨s1,l3,o3,ht1⟩:∃ s1 l3 o3,txtSt 32 li oi=(s1,l3,o3):=⟨_,_,_,rfl⟩
   obtain ⟨s2,l4,o4,ht2⟩:∃ s2 l4 o4,txtSt 4096 l3 o3=(s2,l4,o4):=⟨_,_,_,rfl⟩
   have hnx:fldsN (i+1) ([],l2,o2)=(fs++[(s1,s2)],l4,o4):=by
    rw [fldsN,hsi]
    unfold stepF
    dsimp only
    rw [ht1]
    dsimp only
    rw [ht2]
   rw [hsi] at HO HR hlt9
   have hfl:fs.length≤16:=by simp at hlt9;omega
   have HNX:=Lib.hid hnx
   have HT1:=Lib.hid (text_any B g 32 li oi wr (by omega) (by omega) HR.out hB)
   rw [ht1] at HT1
   have HT2:=Lib.hid (fun W (h:Rd B W g l3 o3)=>(show Calls Tryz.prog 278 #[.pointer (some ⟨g,0,none⟩),.int .i64 4096] W (Took B g (.string ⟨s2.toArray⟩) l4 o4 W) from by have:=text_any B g 4096 l3 o3 W (by omega) (by omega) h hB;rw [ht2] at this;exact this))
   have HLT:=Lib.hid hlt
   clear hsi ht1 ht2 hnx hlt hlt9 HR
   go_wp2_with fail
   refine HT1.out.mono ?_
   rintro e w4 ⟨rfl,hr4,hk4⟩
   have hs4:=hk4.size
   have HO4:=Lib.hid (HO.out.keep hk4 (fun _ _ h=>h.elim) (fun k hk=>by have:=(HO.out.cells hk).1;omega))
   have HBX4:=Lib.hid ((hk4.block q hqw (by omega)).trans HBX.out)
   have HA4:=Lib.hid ((hk4.block w.heap.size (by omega) (by omega)).trans HA.out)
   have HR4:=Lib.hid hr4
   have HK4:=Lib.hid (HK.out.trans hk4)
   clear hr4 hk4 HT1 HO HBX HA HK
   go_wp2_with fail
   refine RS.begin_ (T:=fun b=>b≠g∧u.ownBlock≠some b) [(0,true),(1,true),(2,true),(3,true),(4,false),(5,true),(6,false),(7,false),(8,true)] hmx (by kernel_rfl) (fun _ _ d _ _ h=>by cases d<;>exact h) ?_
   simp only [RS.ordered,List.map_cons,List.map_nil,List.getElem?_toArray,List.getElem?_cons_succ,List.getElem?_cons_zero]
   have hub:u.ownBlock≠some q:=fun e=>by have:=(HO4.out.cells e).1;omega
   have hug:u.ownBlock≠some g:=fun e=>by have:=(HO4.out.cells e).1;omega
   have huR:u.ownBlock≠some w.heap.size:=fun e=>by have:=(HO4.out.cells e).1;omega
   obtain ⟨wd,hwd⟩:∃ wd,w4.drew=wd:=⟨_,rfl⟩
   have hkd:Kep (fun _=>True) w4 wd:=by rw [← hwd];exact kep_draw _ _
   have hsd:w4.heap.size=wd.heap.size:=by rw [← hwd];rfl
   have c1:wd.cell? ⟨q,1,none⟩=some u:=by rw [cell_of_row wd q 1 _ _ _ ((hkd.block q (by omega) trivial).trans HBX4.out)];rfl
   have G:=Lib.hid (fun W (hW:Kep (fun b=>b≠g∧u.ownBlock≠some b) wd W)=>(show W.cell? ⟨q,1,none⟩=some u from (hW.cell (by omega) ⟨by omega,hub⟩ 1).trans c1))
   have HOd:=Lib.hid (HO4.out.keep hkd (fun _ _ _=>trivial) (fun _ _=>trivial))
   have HBd:=Lib.hid ((hkd.block q (by omega) trivial).trans HBX4.out)
   have HAd:=Lib.hid ((hkd.block w.heap.size (by omega) trivial).trans HA4.out)
   have HRd:=Lib.hid (HR4.out.keep hkd trivial (fun _ _=>trivial) (by omega))
   have HKd:=Lib.hid (HK4.out.trans (hkd.mono fun _ _=>trivial))
   rw [hwd]
   clear hwd hkd c1 HO4 HBX4 HA4 HR4 HK4
   repeat (refine RS.take (by rfl) (by intro W hW;have f1:=G.out W hW;go_simp;with_reducible rfl) ?_;simp only [Act.put,List.setIfInBounds_toArray,List.set_cons_zero,List.set_cons_succ])
   refine RS.alone (by rfl) (fun K hK => ?_)
   go_simp
   refine (HT2.out wd HRd.out).mono ?_
   rintro e w5 ⟨rfl,hr5,hk5⟩
   go_simp
   refine hK.out _ _ (hk5.mono fun _ h=>h.1) ?_
   clear hK K
   have hs5:=hk5.size
   have HO5:=Lib.hid (HOd.out.keep hk5 (fun _ _ h=>h.elim) (fun k hk=>by have:=(HOd.out.cells hk).1;omega))
   have HB5:=Lib.hid ((hk5.block q (by omega) (by omega)).trans HBd.out)
   have HA5:=Lib.hid ((hk5.block w.heap.size (by omega) (by omega)).trans HAd.out)
   have HR5:=Lib.hid hr5
   have HK5:=Lib.hid (HKd.out.trans hk5)
   clear hr5 hk5 G HOd HBd HAd HRd HKd HT2
   repeat (refine RS.take (by rfl) (by intro W hW;go_simp;with_reducible rfl) ?_;simp only [Act.put,List.setIfInBounds_toArray,List.set_cons_zero,List.set_cons_succ])
   refine RS.alone (by rfl) (fun K hK => ?_)
   go_simp
   refine hK.out _ _ (kep_alloc _ _ _) ?_
   clear hK K
   refine RS.alone (by rfl) (fun K hK => ?_)
   refine wp_append_x1 fldE _ _ rfl (q+1) u fs w5 [.string ⟨s1.toArray⟩,.string ⟨s2.toArray⟩] (s1,s2) rfl rfl HO5.out (fun _ _ h=>h.elim) (fld_on.2 rfl) rfl (by unfold maxLen;omega) (by omega) (by omega) ?_
   intro v6 w6 ho6 hb6 hk6 hv6
   obtain ⟨g6,c6,rfl⟩:=hv6
   refine hK.out _ _ (hk6.mono fun _ h=>h.2) ?_
   clear hK K
   have hka:Kep (fun b=>u.ownBlock≠some b) w5 w6:=(kep_alloc _ _ _).trans hk6
   have HO6:=Lib.hid ho6
   have B6:=(hka.block q (by omega) hub).trans HB5.out
   have HB6:=Lib.hid B6
   have HA6:=Lib.hid ((hka.block w.heap.size (by omega) huR).trans HA5.out)
   have HR6:=Lib.hid (HR5.out.keep hka hug (fun k hk e=>by have:=(HO5.out.cells e).1;omega) (by omega))
   have HK6:=Lib.hid (HK5.out.andThen hka (fun k hk _ e=>by have:=(HO5.out.cells e).1;omega))
   have hs6:=hka.size
   clear hka ho6 hb6 hk6 HO5 HB5 HA5 HR5 HK5
   repeat (refine RS.take (by rfl) (by intro W hW;go_simp;with_reducible rfl) ?_;simp only [Act.put,List.setIfInBounds_toArray,List.set_cons_zero,List.set_cons_succ])
   refine RS.done ?_
   simp only [List.length_cons,List.length_nil,List.drop_succ_cons,List.drop_zero,Nat.zero_add,Nat.reduceAdd]
   obtain ⟨k0,k1,k2,k3,_,_⟩:=Two.all (show Two w6 q 57 (.int .i64 z) u from B6) (.int .i64 z)
   have hkb:Kep (fun b=>b≠q) w6 (w6.setCell ⟨q,1,none⟩ (.slice (some ⟨g6,0,none⟩) (fs.length+1) c6)):=kep_set0 _
   have HO7:=Lib.hid (HO6.out.keep hkb (fun _ _ h=>h.elim) (fun k hk=>by have:=(HO6.out.cells hk).1;omega))
   have HB7:=Lib.hid (show (w6.setCell ⟨q,1,none⟩ (.slice (some ⟨g6,0,none⟩) (fs.length+1) c6)).heap[q]? = some (.cells #[.int .i64 z,.slice (some ⟨g6,0,none⟩) (fs.length+1) c6] 57 (0,0)) from heap_setCell_same w6 q 1 _ _ _ HB6.out)
   have HA7:=Lib.hid ((hkb.block w.heap.size (by omega) (by omega)).trans HA6.out)
   have HR7:=Lib.hid (HR6.out.keep hkb (by omega) (fun k hk=>by omega) (by omega))
   have HK7:=Lib.hid (HK6.out.andThen hkb (fun k hk _=>by omega))
   have HOr:Hid (OwnX fldC 123 (q+1) (fun _=>False) (w6.setCell ⟨q,1,none⟩ (.slice (some ⟨g6,0,none⟩) (fs.length+1) c6)) (.slice (some ⟨g6,0,none⟩) (fs.length+1) c6) (fldsN (i+1) ([],l2,o2)).1):=Lib.hid (by rw [HNX.out];exact HO7.out)
   have HRr:Hid (Rd B (w6.setCell ⟨q,1,none⟩ (.slice (some ⟨g6,0,none⟩) (fs.length+1) c6)) g (fldsN (i+1) ([],l2,o2)).2.1 (fldsN (i+1) ([],l2,o2)).2.2):=Lib.hid (by rw [HNX.out];exact HR7.out)
   clear hkb B6 HO6 HB6 HA6 HR6 HK6 HO7 HR7 HNX
   go_wp2_with fail
   have hlt:=HLT.out
   go_roundw
   case rel=>exact ⟨i+1,_,by omega,by go_num,HOr,HB7,HA7,HRr,HK7⟩
   case measure=>simp [intOf];omega
  ·obtain rfl:i=N:=by omega
   have q1:decide ((i:Int)<(i:Int))=false:=by simp
   obtain ⟨k0,k1,_,_,_,_⟩:=Two.all (show Two wr q 57 (.int .i64 z) u from HBX.out) (.int .i64 z)
   obtain ⟨m0,m1,m2,m3,m4,m5⟩:=Two.all (show Two wr w.heap.size 57 (.int .i64 0) (.slice none 0 0) from HA.out) (.int .i64 z)
   have HX:=Lib.hid (Two.s01 (show Two wr w.heap.size 57 (.int .i64 0) (.slice none 0 0) from HA.out) (.int .i64 z) u)
   have hkb:Kep (fun b=>b≠w.heap.size) wr ((wr.setCell ⟨w.heap.size,0,none⟩ (.int .i64 z)).setCell ⟨w.heap.size,1,none⟩ u):=kep_set01 _ _
   have HQ:Hid (EvTook B g (evSt l o) w (.returned (.agg #[.int .i64 z,u])) ((wr.setCell ⟨w.heap.size,0,none⟩ (.int .i64 z)).setCell ⟨w.heap.size,1,none⟩ u)):=Lib.hid (by
    rw [HST.out]
    refine ⟨u,rfl,?_,HR.out.keep hkb (by omega) (fun k hk=>by omega) (by omega),HK.out.andThen hkb (fun k hk _=>by omega)⟩
    have hok:=HO.out.keep hkb (fun _ _ h=>h.elim) (fun k hk=>by have:=(HO.out.cells hk).1;omega)
    exact hok.ron (fun k hk=>⟨by have:=(HO.out.cells hk).1;omega,(hok.cells hk).2.2⟩) (fun _ _ h=>h.elim))
   obtain ⟨pu,cu,hu,_⟩:=(OwnX.any HO.out).shape
   rw [hu] at k1 HX HQ
   clear hkb HO HBX HA HR HK hlt HST hlt9
   go_wp2_with fail
   refine bodyPost_ret (results_box1 rfl Tryz.underlying57 rfl infoEv2 _ _ w.heap.size _ _ rfl HX.out) rfl HQ.out
end Go.Proofs.YtdijhifdjbnkfaaGreat.EV
set_option linter.unusedVariables false
namespace Go.Proofs.YtdijhifdjbnkfaaGreat.EV
open Go Go.RowKit Go.Proofs.YtdijhifdjbnkfaaGreat.MM Go.Proofs.YtdijhifdjbnkfaaGreat.EM Go.Proofs.YtdijhifdjbnkfaaGreat.VM
open Go.Proofs.YtdijhifdjbnkfaaGreat.VP
def getR (l:List UInt8):Ev×List UInt8×Int:=match getE l with
 | some (e,r)=>(e,r,0)
 | none=>((0,[]),[],100)
theorem getR_some {l r:List UInt8} {e:Ev} (h:getE l=some (e,r)):getR l=(e,r,0):=by unfold getR;rw [h]
theorem getR_none {l:List UInt8} (h:getE l=none):getR l=((0,[]),[],100):=by unfold getR;rw [h]
theorem get_odd {l:List UInt8} (h:(evSt l false).2.2=true):getE l=none:=by
 unfold getE
 cases hr:rdE l with
 | none=>rfl
 | some p =>
   obtain ⟨e,r⟩:=p
   rw [ev_some false hr] at h
   cases h
theorem get_read {l:List UInt8} (h:(evSt l false).2.2=false):rdE l=some ((evSt l false).1,(evSt l false).2.1):=by
 cases hr:rdE l with
 | none=>rw [ev_none false hr] at h;cases h
 | some p =>
   obtain ⟨e,r⟩:=p
   rw [ev_some false hr]
theorem get_bad {l:List UInt8} (h:(evSt l false).2.2=false) (hc:checkE (evSt l false).1≠0):getE l=none:=by
 unfold getE
 rw [get_read h]
 dsimp only
 rw [if_neg hc]
theorem get_good {l:List UInt8} (h:(evSt l false).2.2=false) (hc:checkE (evSt l false).1=0):getE l=some ((evSt l false).1,(evSt l false).2.1):=by
 unfold getE
 rw [get_read h]
 dsimp only
 rw [if_pos hc]
end Go.Proofs.YtdijhifdjbnkfaaGreat.EV
set_option linter.unusedVariables false
namespace Go.Proofs.YtdijhifdjbnkfaaGreat.EV
open Go Go.RowKit Go.Proofs.YtdijhifdjbnkfaaGreat.MM Go.Proofs.YtdijhifdjbnkfaaGreat.EM Go.Proofs.YtdijhifdjbnkfaaGreat.VM
open Go.Proofs.YtdijhifdjbnkfaaGreat.VP
theorem newf_keep {T:Nat→Prop} {wa w1 w2:World} {u:Value} {fs:List Fld} (h:ROn fldC (NewF wa w1) w1 u fs) (hk:Kep T w1 w2) (hT:∀ b,wa.heap.size≤b→T b):ROn fldC (NewF wa w2) w2 u fs :=
 ROn.keep h (hk.mono fun b hb=>hT b hb.1) fun b hb hn=>⟨hn.1,hn.2.keep hk (hT b hn.1)⟩
def CGotF (s:Ev×List UInt8×Int) (w:World) (e:Ending) (w':World):Prop :=
 ∃ u v,e=.returned (.tuple #[.agg #[.int .i64 s.1.1,u],v,.int .i64 s.2.2])∧ROn fldC (NewF w w') w' u s.1.2∧OwnB w.heap.size w' v s.2.1∧Below w.heap.size w w'
set_option maxRecDepth 100000 in
set_option maxHeartbeats 2000000 in
theorem cgetF_any (v:Value) (l:List UInt8) (w:World) (hv:BRow w v l) (hl:l.length≤1000000000000):Calls Tryz.prog 246 #[v] w (CGotF (getR l) w):=by
 have hmx:Tryz.prog.follows .mixedOrders=true:=by kernel_rfl
 obtain ⟨pv,cv,rfl,_⟩:=hv.shape
 obtain ⟨z,fs,l1,o1,hst⟩:∃ z fs l1 o1,evSt l false=((z,fs),l1,o1):=⟨_,_,_,_,rfl⟩
 have hodd:=get_odd (l:=l)
 have hbad:=get_bad (l:=l)
 have hgood:=get_good (l:=l)
 rw [hst] at hodd hbad hgood
 have HODD:=Lib.hid hodd
 have HBAD:=Lib.hid hbad
 have HGOOD:=Lib.hid hgood
 obtain ⟨wa,hwa⟩:∃ wa,(w.alloc (.cells #[.int .i64 0,.slice none 0 0] 57)).alloc (.cells #[.slice pv l.length cv,.bool false] 326)=wa:=⟨_,rfl⟩
 have hba:Below w.heap.size w wa:=by rw [← hwa];exact ((Below.refl _ _).alloc (Nat.le_refl _) _).alloc (by simp) _
 have hsa:wa.heap.size=w.heap.size+2:=by rw [← hwa];simp
 have t0:Two wa w.heap.size 57 (.int .i64 0) (.slice none 0 0):=by
  rw [← hwa];exact (two_new w 57 _ _).keep (kep_alloc (fun _=>True) _ _) trivial
 have hrd:Rd w.heap.size wa (w.heap.size+1) l false:=by
  refine ⟨.slice pv l.length cv,?_,BIn.below hv hba⟩
  rw [← hwa]
  have:=heap_alloc_new (w.alloc (.cells #[.int .i64 0,.slice none 0 0] 57)) (.cells #[.slice pv l.length cv,.bool false] 326)
  simp only [World.size_alloc] at this
  exact this
 have HE:=Lib.hid (event_any w.heap.size (w.heap.size+1) l false wa hrd (by omega))
 rw [hst] at HE
 have HFAIL:Hid (∀ W a b,Two W w.heap.size 57 a b→Below w.heap.size w W→getE l=none →
   CGotF (getR l) w (.returned (.tuple #[.agg #[.int .i64 0,.slice none 0 0],.slice none 0 0,.int .i64 100])) ((W.setCell ⟨w.heap.size,0,none⟩ (.int .i64 0)).setCell ⟨w.heap.size,1,none⟩ (.slice none 0 0))):=Lib.hid (fun W a b ht hb hn=>by
  rw [getR_none hn]
  exact ⟨_,_,rfl,ROn.nil_ _ _,World.ownsRow_nil _ _ _ _,hb.trans ((kep_set01 (.int .i64 0) (.slice none 0 0)).below (B:=w.heap.size) (Nat.le_of_lt ht.lt) (fun k hk=>by omega))⟩)
 have T0:=Lib.hid t0
 have HBA:=Lib.hid hba
 have HWA:=Lib.hid hwa
 clear hodd hbad hgood hst hrd t0 hba hv hwa
 go_enter Tryz.func246,Tryz.ntmps246
 go_wp2_with fail
 rw [HWA.out]
 refine HE.out.mono ?_
 rintro e w1 ⟨u,rfl,hu,hr1,hk1⟩
 have hr1:Rd w.heap.size w1 (w.heap.size+1) l1 o1:=hr1
 have hs1:=hk1.size
 have t1:Two w1 w.heap.size 57 (.int .i64 0) (.slice none 0 0):=T0.out.keep hk1 (by omega)
 have HT2:=Lib.hid (t1.s01 (.int .i64 z) u)
 have hk2:Kep (fun b=>b≠w.heap.size) w1 ((w1.setCell ⟨w.heap.size,0,none⟩ (.int .i64 z)).setCell ⟨w.heap.size,1,none⟩ u):=kep_set01 _ _
 obtain ⟨a0,a1,a2,a3,a4,a5⟩:=t1.all (.int .i64 z)
 obtain ⟨w2,hw2⟩:∃ w2,(w1.setCell ⟨w.heap.size,0,none⟩ (.int .i64 z)).setCell ⟨w.heap.size,1,none⟩ u=w2:=⟨_,rfl⟩
 rw [hw2] at HT2 hk2
 have hs2:=hk2.size
 have HW2:=Lib.hid hw2
 have hb2:Below w.heap.size w w2:=HBA.out.trans ((hk1.below (B:=w.heap.size) (by omega) (fun k hk=>by omega)).trans (hk2.below (by omega) (fun k hk=>by omega)))
 have hu2:ROn fldC (NewF wa w2) w2 u fs:=newf_keep hu hk2 (fun b hb=>by omega)
 have hr2:Rd w.heap.size w2 (w.heap.size+1) l1 o1:=hr1.keep hk2 (by omega) (fun k hk=>by omega) (by omega)
 have HB2:=Lib.hid hb2
 have HU2:=Lib.hid hu2
 obtain ⟨vl,hc2,hl2⟩:=hr2
 have HVL:=Lib.hid hl2
 have g0:=cell_of_row w2 (w.heap.size+1) 0 _ _ _ hc2
 have g1:=cell_of_row w2 (w.heap.size+1) 1 _ _ _ hc2
 obtain ⟨pu,cu,hpu,_⟩:=hu2.shape
 subst hpu
 have e0:=HT2.out.c0
 have e1:=HT2.out.c1
 have HC2:=Lib.hid hc2
 rw [← HW2.out] at g0 g1 e0 e1
 clear hu hr1 hk1 t1 hk2 hw2 hb2 hu2 hl2 hc2 HE
 cases o1 with
 | true =>
   have HQ:=Lib.hid (HFAIL.out w2 _ _ HT2.out HB2.out (HODD.out rfl))
   have HX:=Lib.hid (HT2.out.s01 (.int .i64 0) (.slice none 0 0))
   obtain ⟨_,_,b2,b3,b4,b5⟩:=HT2.out.all (.int .i64 0)
   rw [← HW2.out] at HQ HX b2 b3 b4 b5
   clear HU2 HVL HC2 HFAIL HODD HBAD HGOOD HW2 HT2
   go_wp2_with fail
   refine bodyPost_ret (results_box3 (p:=2) (u:=3) (v:=4) rfl Tryz.underlying57 rfl infoEv2 _ _ w.heap.size _ _ rfl HX.out) rfl HQ.out
 | false =>
   go_wp2_with fail
   rw [HW2.out]
   rw [HW2.out] at g0 g1 e0 e1
   refine (check_any z _ fs w2 HU2.out.any).mono ?_
   rintro e w3 ⟨rfl,hb3⟩
   have ht3:=HT2.out.keep (kep_below (fun _=>True) hb3) trivial
   have HB3:=Lib.hid (HB2.out.trans (hb3.mono HB2.out.size))
   have HT3:=Lib.hid ht3
   have hs3:=hb3.size
   have hc3:=(hb3.block (w.heap.size+1) (by omega)).trans HC2.out
   have HV3:=Lib.hid (HVL.out.below (hb3.mono (by omega)))
   have HU3:=Lib.hid (newf_keep HU2.out (kep_below (fun _=>True) hb3) fun _ _=>trivial)
   obtain ⟨c,hc⟩:∃ c,checkE (z,fs)=c:=⟨_,rfl⟩
   rw [hc] at HBAD HGOOD ⊢
   by_cases hz:c=0
   ·subst hz
    have hgd:=HGOOD.out (by trivial) rfl
    have HGR:=Lib.hid (getR_some hgd)
    have k0:=cell_of_row w3 (w.heap.size+1) 0 _ _ _ hc3
    have hl1:l1.length≤1000000000000:=by
     have:=congrArg List.length (getE_back hgd).1
     rw [List.length_append] at this
     omega
    clear hb3 ht3 hc3 hgd hc HODD HBAD HGOOD HU2 HVL HC2 HT2 HFAIL g0 g1 e0 e1 a0 a1 a2 a3 a4 a5
    go_wp2_with fail
    refine RS.begin_ (T:=fun b=>b<w3.heap.size) [(0,true),(1,true),(2,true),(3,false)] hmx (by kernel_rfl) (fun _ _ d _ _ h=>by cases d<;>exact h) ?_
    simp only [RS.ordered,List.map_cons,List.map_nil,List.getElem?_toArray,List.getElem?_cons_succ,List.getElem?_cons_zero]
    obtain ⟨wd,hwd⟩:∃ wd,w3.drew=wd:=⟨_,rfl⟩
    have hbd:Below w3.heap.size w3 wd:=by rw [← hwd];exact (Below.refl _ _).drew
    have htd:=HT3.out.below hbd HT3.out.lt
    have G:=Lib.hid (fun W (hW:Kep (fun b=>b<w3.heap.size) wd W)=>(show W.cell? ⟨w.heap.size,0,none⟩=some (.int .i64 z)∧W.cell? ⟨w.heap.size,1,none⟩=some (.slice pu fs.length cu)∧W.cell? ⟨w.heap.size+1,0,none⟩=some vl from
     ⟨(htd.keep hW (by omega)).c0,(htd.keep hW (by omega)).c1,(hW.cell (by have:=hbd.size;omega) (by omega) 0).trans ((hbd.cell (p:=⟨w.heap.size+1,0,none⟩) (show w.heap.size+1<w3.heap.size by omega)).trans k0)⟩))
    have HCL:=Lib.hid (bclone_any vl l1 wd (BRow.below (BIn.row HV3.out (by omega)) hbd) hl1)
    have HTD:=Lib.hid htd
    have HBD:=Lib.hid hbd
    have HUD:=Lib.hid (newf_keep HU3.out (kep_below (fun _=>True) hbd) fun _ _=>trivial)
    rw [hwd]
    have hsd:=hbd.size
    clear hwd hbd htd HT3 HU3 HV3 k0
    repeat (refine RS.take (by rfl) (by intro W hW;obtain ⟨f1,f2,f3⟩:=G.out W hW;go_simp;with_reducible rfl) ?_;simp only [Act.put,List.setIfInBounds_toArray,List.set_cons_zero,List.set_cons_succ])
    refine RS.alone (by rfl) (fun K hK => ?_)
    go_simp
    refine HCL.out.mono ?_
    rintro e w4 ⟨v4,rfl,ho4,hb4⟩
    go_simp
    refine hK.out _ _ (kep_below _ hb4) ?_
    clear hK K
    have ht4:=HTD.out.below hb4 HTD.out.lt
    obtain ⟨_,_,b2,b3,b4,b5⟩:=ht4.all (.int .i64 z)
    have HX:=Lib.hid (ht4.s01 (.int .i64 z) (.slice pu fs.length cu))
    have hs4:=hb4.size
    have hk5:Kep (fun b=>b≠w.heap.size) w4 ((w4.setCell ⟨w.heap.size,0,none⟩ (.int .i64 z)).setCell ⟨w.heap.size,1,none⟩ (.slice pu fs.length cu)):=kep_set01 _ _
    have HQ:Hid (CGotF (getR l) w (.returned (.tuple #[.agg #[.int .i64 z,.slice pu fs.length cu],v4,.int .i64 0])) ((w4.setCell ⟨w.heap.size,0,none⟩ (.int .i64 z)).setCell ⟨w.heap.size,1,none⟩ (.slice pu fs.length cu))):=Lib.hid (by
     rw [HGR.out]
     refine ⟨_,_,rfl,?_,?_,?_⟩
     ·have h1:=newf_keep HUD.out (kep_below (fun _=>True) hb4) fun _ _=>trivial
      exact (newf_keep h1 hk5 (fun b hb=>by omega)).weak fun b _ hb=>⟨by have:=hb.1;omega,hb.2⟩
     ·exact OwnB.weaken (GB.OwnB.kepOwn ho4 hk5 (fun k hk=>by have:=(World.ownsRow.lt ho4 k hk).1;omega)) (by omega)
     ·exact (HB3.out.trans ((HBD.out.trans (hb4.mono hsd)).mono HB3.out.size)).trans (hk5.below (by omega) (fun k hk=>by omega)))
    clear ht4 ho4 hb4 hk5 HTD HBD HUD G HCL HGR HB3
    refine RS.done ?_
    simp only [List.length_cons,List.length_nil,List.drop_succ_cons,List.drop_zero,Nat.zero_add,Nat.reduceAdd]
    go_wp2_with fail
    refine bodyPost_ret (results_box3 (p:=2) (u:=3) (v:=4) rfl Tryz.underlying57 rfl infoEv2 _ _ w.heap.size _ _ rfl HX.out) rfl HQ.out
   ·have q1:(c != 0)=true:=by rw [bne_iff_ne];exact hz
    have HQ:=Lib.hid (HFAIL.out w3 _ _ HT3.out HB3.out (HBAD.out (by trivial) hz))
    have HX:=Lib.hid (HT3.out.s01 (.int .i64 0) (.slice none 0 0))
    obtain ⟨_,_,b2,b3,b4,b5⟩:=HT3.out.all (.int .i64 0)
    clear HU2 HVL HC2 HFAIL HODD HBAD HGOOD HW2 HT2 hb3 ht3 hc3 HU3 HV3
    go_wp2_with fail
    refine bodyPost_ret (results_box3 (p:=2) (u:=3) (v:=4) rfl Tryz.underlying57 rfl infoEv2 _ _ w.heap.size _ _ rfl HX.out) rfl HQ.out
end Go.Proofs.YtdijhifdjbnkfaaGreat.EV
set_option linter.unusedVariables false
namespace Go.Proofs.YtdijhifdjbnkfaaGreat.SR
open Go Go.RowKit Go.Proofs.YtdijhifdjbnkfaaGreat.MM Go.Proofs.YtdijhifdjbnkfaaGreat.VM
open Go.Proofs.YtdijhifdjbnkfaaGreat.EM (Fld Ev)
open Go.Proofs.YtdijhifdjbnkfaaGreat.EV (fldC getR cgetF_any infoEv2 NewF IsF newf_keep)
def numSt (m:Nat) (l:List UInt8) (o:Bool):Nat×List UInt8×Bool:=if (getL l).2.2=0∧(getL l).1≤m then ((getL l).1,VG.restL l,o) else (0,[],true)
def evS (l:List UInt8) (o:Bool):Ev×List UInt8×Bool:=((getR l).1,(getR l).2.1,o||(getR l).2.2 != 0)
def Rd (S:Nat→Prop) (w:World) (g:Nat) (l:List UInt8) (o:Bool):Prop:=∃ v,w.heap[g]? = some (.cells #[v,.bool o] 230 (0,0))∧BOn S w v l
theorem Rd.lt {S:Nat→Prop} {w:World} {g:Nat} {l:List UInt8} {o:Bool} (h:Rd S w g l o):g<w.heap.size:=by obtain ⟨v,h,_⟩:=h;exact (Array.getElem?_eq_some_iff.1 h).1
theorem Rd.keep {S T:Nat→Prop} {w w':World} {g:Nat} {l:List UInt8} {o:Bool} (h:Rd S w g l o) (hk:Kep T w w') (hg:T g) (hS:∀ b,b<w.heap.size→S b→T b):Rd S w' g l o:=by
 have hl:=h.lt
 obtain ⟨v,h,hv⟩:=h
 exact ⟨v,(hk.block g hl hg).trans h,hv.keep (hk.mono' fun k hk hs=>hS k hk hs) fun _ _ h=>h⟩
theorem Rd.below {S:Nat→Prop} {w w':World} {g:Nat} {l:List UInt8} {o:Bool} (h:Rd S w g l o) (hb:Below w.heap.size w w'):Rd S w' g l o:=h.keep (kep_below (fun _=>True) hb) trivial fun _ _ _=>trivial
theorem Rd.weak {S T:Nat→Prop} {w:World} {g:Nat} {l:List UInt8} {o:Bool} (h:Rd S w g l o) (hT:∀ b,b<w.heap.size→S b→T b):Rd T w g l o:=by
 obtain ⟨v,h,hv⟩:=h
 exact ⟨v,h,hv.weak hT⟩
theorem rd_set0 {S S':Nat→Prop} {w:World} {g:Nat} {l m:List UInt8} {o:Bool} {v:Value} (h:Rd S w g l o) (hg:¬ S' g) (hv:BOn S' w v m):Rd S' (w.setCell ⟨g,0,none⟩ v) g m o:=by
 obtain ⟨v0,h,_⟩:=h
 exact ⟨v,heap_setCell_same w g 0 _ _ v h,hv.keep (kep_set hg v) fun _ _ h=>h⟩
theorem rd_set1 {S S':Nat→Prop} {w:World} {g:Nat} {l m:List UInt8} {o:Bool} {v:Value} (h:Rd S w g l o) (hg:¬ S' g) (hv:BOn S' w v m):Rd S' ((w.setCell ⟨g,0,none⟩ v).setCell ⟨g,1,none⟩ (.bool true)) g m true:=by
 obtain ⟨v0,h,_⟩:=h
 exact ⟨v,heap_setCell_same _ g 1 _ _ (.bool true) (heap_setCell_same w g 0 _ _ v h),(hv.keep (kep_set hg v) fun _ _ h=>h).keep (kep_set hg (.bool true)) fun _ _ h=>h⟩
def Took (S:Nat→Prop) (g:Nat) (x:Value) (l:List UInt8) (o:Bool) (w:World) (e:Ending) (w':World):Prop:=e=.returned x∧Rd S w' g l o∧Kep (fun b=>b≠g) w w'
def IsU (w:World) (b:Nat):Prop:=∃ cur fr,w.heap[b]? = some (.cells cur 5 fr)
theorem IsU.keep {T:Nat→Prop} {w w':World} {b:Nat} (h:IsU w b) (hk:Kep T w w') (hb:T b):IsU w' b:=by
 obtain ⟨cur,fr,h⟩:=h
 exact ⟨cur,fr,(hk.block b (Array.getElem?_eq_some_iff.1 h).1 hb).trans h⟩
theorem IsU.lt {w:World} {b:Nat} (h:IsU w b):b<w.heap.size:=by obtain ⟨_,_,h⟩:=h;exact (Array.getElem?_eq_some_iff.1 h).1
def EvTook (g:Nat) (s:Ev×List UInt8×Bool) (w:World) (e:Ending) (w':World):Prop :=
 ∃ u,e=.returned (.agg #[.int .i64 s.1.1,u])∧ROn fldC (NewF w w') w' u s.1.2∧Rd (fun b=>w.heap.size≤b∧IsU w' b) w' g s.2.1 s.2.2∧Kep (fun b=>b≠g) w w'
set_option maxRecDepth 100000 in
set_option maxHeartbeats 1000000 in
theorem goon_any (S S':Nat→Prop) (g:Nat) (l m:List UInt8) (o:Bool) (v:Value) (er:Int) (w:World) (h:Rd S w g l o) (hg:¬ S' g) (hv:BOn S' w v m) :
  Calls Tryz.prog 207 #[.pointer (some ⟨g,0,none⟩),v,.int .i64 er] w (Took S' g (.tuple #[]) m (o||er != 0) w):=by
 have HR:=Lib.hid h
 obtain ⟨v0,hc,_⟩:=h
 have HV:=Lib.hid hv
 have f0:=cell_of_row w g 0 _ _ _ hc
 have f1:=cell_of_row w g 1 _ _ _ hc
 have f2:=frozen_of_row w g 0 _ _ hc
 have f3:=frozen_of_row w g 1 _ _ hc
 obtain ⟨p1,c1,rfl,_⟩:=hv.shape
 by_cases h0:er=0
 ·subst h0
  have t1:(o||((0:Int) != 0))=o:=by simp
  rw [t1]
  have HQ:=Lib.hid (show Took S' g (.tuple #[]) m o w (.returned (.tuple #[])) (w.setCell ⟨g,0,none⟩ (.slice p1 m.length c1)) from ⟨rfl,rd_set0 HR.out hg HV.out,kep_set (by simp) _⟩)
  clear hv HV HR hc
  go_enter Tryz.func207,Tryz.ntmps207
  go_wp2_with fail
  refine bodyPost_end (results_none rfl _ _ _) rfl ?_
  exact HQ.out
 ·have t0:(er != 0)=true:=by rw [bne_iff_ne];exact h0
  have t1:(o||(er != 0))=true:=by rw [t0];simp
  rw [t1]
  have HQ:=Lib.hid (show Took S' g (.tuple #[]) m true w (.returned (.tuple #[])) ((w.setCell ⟨g,0,none⟩ (.slice p1 m.length c1)).setCell ⟨g,1,none⟩ (.bool true)) from ⟨rfl,rd_set1 HR.out hg HV.out,(kep_set (by simp) _).trans (kep_set (by simp) _)⟩)
  clear hv HV HR hc
  go_enter Tryz.func207,Tryz.ntmps207
  go_wp2_with fail
  refine bodyPost_end (results_none rfl _ _ _) rfl ?_
  exact HQ.out
set_option maxRecDepth 100000 in
set_option maxHeartbeats 1000000 in
theorem number_any (S:Nat→Prop) (g:Nat) (m:Nat) (l:List UInt8) (o:Bool) (w:World) (hm:m≤1099511627776) (h:Rd S w g l o) (hg:¬ S g) :
  Calls Tryz.prog 206 #[.pointer (some ⟨g,0,none⟩),.int .i64 m] w (Took S g (.int .i64 (numSt m l o).1) (numSt m l o).2.1 (numSt m l o).2.2 w):=by
 have HR:=Lib.hid h
 obtain ⟨v,hc,hv⟩:=h
 have f0:w.cell? ⟨g,0,none⟩=some v:=by rw [cell_of_row w g 0 _ _ _ hc];rfl
 have HG:=Lib.hid (VG.get_on S v l w hv)
 have HGO:=Lib.hid (fun m v er w1 (h1:Rd S w1 g l o) (h2:BOn S w1 v m)=>goon_any S S g l m o v er w1 h1 hg h2)
 have hb:=getL_bounds l
 have herr:(getL l).2.2≠0→(getL l).1=0∧VG.restL l=[]:=fun he=>by
  refine ⟨?_,by unfold VG.restL;rw [if_neg he]⟩
  rcases hb.2.2.1 with e | e | e
  ·exact absurd e he
  ·rw [e]
  ·rw [e]
 have hn:=hb.1
 unfold numSt
 generalize (getL l).1=n at *
 generalize (getL l).2.2=er at *
 generalize VG.restL l=R at *
 clear hv hc hb
 by_cases hmn:n≤m
 ·have hst:(if er=0∧n≤m then (n,R,o) else (0,[],true))=(n,R,o||er != 0):=by
   by_cases h0:er=0
   ·subst h0
    rw [if_pos ⟨rfl,hmn⟩];simp
   ·rw [if_neg (fun h=>h0 h.1),(herr h0).1,(herr h0).2]
    have:(er != 0)=true:=by rw [bne_iff_ne];exact h0
    rw [this];simp
  rw [hst]
  have t1:decide ((n:Int)>(m:Int))=false:=decide_eq_false (by omega)
  have t2:IntKind.u64.wrap (m:Int)=(m:Int):=by rw [IntKind.wrap_u64];omega
  have t3:IntKind.i64.wrap (n:Int)=(n:Int):=by rw [IntKind.wrap_i64];omega
  dsimp only
  clear hst herr
  go_enter Tryz.func206,Tryz.ntmps206
  go_wp2_with fail
  refine HG.out.mono ?_
  rintro e w1 ⟨v1,rfl,hv1,hb1⟩
  have hr1:=HR.out.below hb1
  have HQ:=Lib.hid (HGO.out R v1 er w1 hr1 hv1)
  have HB1:=Lib.hid hb1
  clear hv1 hb1 hr1 HG HGO
  go_wp2_with fail
  refine HQ.out.mono ?_
  rintro e w2 ⟨rfl,h2,k2⟩
  have H2:=Lib.hid h2
  have K2:=Lib.hid k2
  clear h2 k2 HQ
  go_wp2_with fail
  go_ret
  exact ⟨rfl,H2.out,(kep_below _ HB1.out).trans K2.out⟩
 ·have hst:(if er=0∧n≤m then (n,R,o) else (0,[],true))=(0,[],true):=by rw [if_neg (fun h=>hmn h.2)]
  rw [hst]
  have t1:decide ((n:Int)>(m:Int))=true:=decide_eq_true (by omega)
  have t2:IntKind.u64.wrap (m:Int)=(m:Int):=by rw [IntKind.wrap_u64];omega
  dsimp only
  clear hst herr
  go_enter Tryz.func206,Tryz.ntmps206
  go_wp2_with fail
  refine HG.out.mono ?_
  rintro e w1 ⟨v1,rfl,hv1,hb1⟩
  have hr1:=HR.out.below hb1
  have HQ:=Lib.hid (HGO.out [] (.slice none 0 0) 120 w1 hr1 (BOn.nil_ _ _))
  have HB1:=Lib.hid hb1
  clear hv1 hb1 hr1 HG HGO
  go_wp2_with fail
  refine HQ.out.mono ?_
  rintro e w2 ⟨rfl,h2,k2⟩
  have h2':Rd S w2 g [] true:=by have:=h2;simpa using this
  have H2:=Lib.hid h2'
  have K2:=Lib.hid k2
  clear h2 h2' k2 HQ
  go_wp2_with fail
  go_ret
  exact ⟨rfl,H2.out,(kep_below _ HB1.out).trans K2.out⟩
set_option maxRecDepth 100000 in
set_option maxHeartbeats 2000000 in
theorem event_any (S:Nat→Prop) (g:Nat) (l:List UInt8) (o:Bool) (w:World) (hl:l.length≤1000000000000) (h:Rd S w g l o) :
  Calls Tryz.prog 208 #[.pointer (some ⟨g,0,none⟩)] w (EvTook g (evS l o) w):=by
 obtain ⟨R,hR⟩:∃ R,w.heap.size=R:=⟨_,rfl⟩
 have hgR:g<R:=by rw [← hR];exact h.lt
 obtain ⟨wa,hwa⟩:∃ wa,w.alloc (.cells #[.int .i64 0,.slice none 0 0] 57)=wa:=⟨_,rfl⟩
 have hba:Below w.heap.size w wa:=by rw [← hwa];exact (Below.refl _ _).alloc (Nat.le_refl _) _
 have T0:Hid (Two wa R 57 (.int .i64 0) (.slice none 0 0)):=Lib.hid (by rw [← hwa,← hR];exact two_new w 57 _ _)
 have hsa:wa.heap.size=R+1:=by rw [← hwa,← hR];simp
 have hra:=h.below hba
 have HRA:=Lib.hid hra
 obtain ⟨v,hc,hv⟩:=hra
 have f0:wa.cell? ⟨g,0,none⟩=some v:=by rw [cell_of_row wa g 0 _ _ _ hc];rfl
 have HG:=Lib.hid (cgetF_any v l wa hv.brow hl)
 obtain ⟨z,fs,rest,er,hgr⟩:∃ z fs rest er,getR l=((z,fs),rest,er):=⟨_,_,_,_,rfl⟩
 unfold evS
 rw [hgr] at HG ⊢
 dsimp only
 have HWA:=Lib.hid hwa
 have HBA:=Lib.hid hba
 rw [← hwa] at f0
 obtain ⟨pv,cv,rfl,_⟩:=hv.shape
 clear hv hc h hwa hba hgr
 go_enter Tryz.func208,Tryz.ntmps208
 go_wp2_with fail
 rw [HWA.out]
 refine HG.out.mono ?_
 rintro e w1 ⟨u,v1,rfl,hu,hv1,hb1⟩
 dsimp only at hu hv1 ⊢
 obtain ⟨pu,cu,rfl,_⟩:=hu.shape
 obtain ⟨p1,c1,rfl,_⟩:=(OwnB.brow hv1).shape
 have hs1:=hb1.size
 obtain ⟨q,hq⟩:∃ q,w1.heap.size=q:=⟨_,rfl⟩
 obtain ⟨w2,hw2⟩:∃ W,w1.alloc (.cells #[.int .i64 z,.slice pu fs.length cu] 57)=W:=⟨_,rfl⟩
 have hb2:Below w1.heap.size w1 w2:=by rw [← hw2];exact (Below.refl _ _).alloc (Nat.le_refl _) _
 have hs2:=hb2.size
 have hb02:Below wa.heap.size wa w2:=grow hb1 hb2
 have X2:Hid (Two w2 q 57 (.int .i64 z) (.slice pu fs.length cu)):=Lib.hid (by rw [← hw2,← hq];exact two_new w1 57 _ _)
 have T2:=Lib.hid (T0.out.below hb02 (by omega))
 have hv2:BOn (fun b=>R+1≤b∧IsU w2 b) w2 (.slice p1 rest.length c1) rest:=(BOn.of_own (OwnB.keep hv1 hb2)).weak fun b _ hb=>by
  have h1:=(World.ownsRow.lt hv1 b hb).1
  exact ⟨by omega,(own_cells (OwnB.keep hv1 hb2) hb).2⟩
 have HQ:=Lib.hid (goon_any S (fun b=>R+1≤b∧IsU w2 b) g l rest o _ er w2 (HRA.out.below hb02) (fun h=>by have:=h.1;omega) hv2)
 have HU2:=Lib.hid (newf_keep hu (kep_below (fun _=>True) hb2) fun _ _=>trivial)
 have HB2:=Lib.hid hb02
 have HW2:=Lib.hid hw2
 clear hu hv1 hb1 hb2 hv2 hb02 hw2 HG HRA
 go_wp2_with fail
 rw [HW2.out]
 refine HQ.out.mono ?_
 rintro e w3 ⟨rfl,hr3,hk3⟩
 have hs3:=hk3.size
 have hgq:g≠q:=by omega
 have X3:=X2.out.keep hk3 (fun e=>hgq e.symm)
 have t3:=T2.out.keep hk3 (by omega)
 obtain ⟨x0,x1⟩:=And.intro X3.c0 X3.c1
 obtain ⟨a0,a1,a2,a3,a4,a5⟩:=t3.all (.int .i64 z)
 have HX:=Lib.hid (t3.s01 (.int .i64 z) (.slice pu fs.length cu))
 have hk4:Kep (fun b=>b≠R) w3 ((w3.setCell ⟨R,0,none⟩ (.int .i64 z)).setCell ⟨R,1,none⟩ (.slice pu fs.length cu)):=kep_set01 _ _
 have h02:Kep (fun b=>b≠g) w w2:=(kep_below _ HBA.out).trans (kep_below _ HB2.out)
 have HFIN:Hid (EvTook g ((z,fs),rest,o||er != 0) w (.returned (.agg #[.int .i64 z,.slice pu fs.length cu])) ((w3.setCell ⟨R,0,none⟩ (.int .i64 z)).setCell ⟨R,1,none⟩ (.slice pu fs.length cu))):=Lib.hid (by
  have hu3:=newf_keep HU2.out hk3 (fun b hb=>by omega)
  have hu4:=newf_keep hu3 hk4 (fun b hb=>by omega)
  refine ⟨_,rfl,hu4.weak fun b _ hb=>⟨by have:=hb.1;omega,hb.2⟩,?_,(h02.trans hk3).andThen hk4 fun i hi _=>by omega⟩
  exact (hr3.keep hk4 (by omega) (fun b _ hb=>by have:=hb.1;omega)).weak fun b _ hb=>⟨by have:=hb.1;omega,(hb.2.keep hk3 (by have:=hb.1;omega)).keep hk4 (by have:=hb.1;omega)⟩)
 clear X3 t3 hk3 hk4 hr3 h02 HU2 X2 T2 HQ
 go_wp2_with fail
 refine bodyPost_ret (results_box1 (p:=2) rfl Tryz.underlying57 rfl infoEv2 _ _ R _ _ rfl HX.out) rfl HFIN.out
end Go.Proofs.YtdijhifdjbnkfaaGreat.SR
set_option linter.unusedVariables false
namespace Go.Proofs.YtdijhifdjbnkfaaGreat.MM
open Go Go.RowKit
variable {α : Type} {C : Codec α}
theorem wpListIn_append_x {F:Fence} {n:Nat} {P:Program} {T e:TypeId} {bytes:Nat} (E:Elem C P T e bytes) {S:Nat→Prop} {w:World} {ops:Array Oper} {rest:List Oper} {o:Oper} {a:Act} {Q:Exit→Act→World→Prop} (hgd:o.guard=none) (s x:Operand)
  (ho:o.op=.call { callee:=.builtin .append,args:=#[s,x],argTypes:=#[T,T] }) (B:Nat) (v:Value) (es:List α) (hs:a.eval s=v) (hown:OwnX C e B S w v es) (hS:∀ b,b<w.heap.size→S b→Apt e B w b)
  (src:Value) (ds:List α) (hx:a.eval x=src) (hr:SrcX C S w src ds) (hne:ds≠[]) (hlen:es.length+ds.length≤maxLen) (hby:(es.length+ds.length)*bytes≤140737488355328) (hbase:B≤w.heap.size)
  (h:∀ v' w',OwnX C e B S w' v' (es++ds)→Below B w w'→w.grownBy w' v.ownBlock→wpListIn F n P ops Q rest (a.put o.dst v') w'):wpListIn F n P ops Q (o::rest) a w:=by
 obtain ⟨p,cap,raw,rfl,h1,h3,hm,hc⟩:=hr
 obtain ⟨i,z,hi,hz,hsz,hbt,hzs⟩:=E.info
 obtain ⟨b,off,rfl,hcc⟩:=hc.resolve_left hne
 obtain ⟨raw1,g1,g2⟩:=hown
 have hlo:∀ k,v.ownBlock=some k→B≤k:=fun k hk=>(World.ownsRow.lt g1 k hk).1
 have hl:raw.flatten.length=ds.length*C.size:=by rw [flat_len hm.lens,hm.1]
 refine wpListIn_append_own w hgd s x T ho B e i z C.size bytes E.under hi hz hsz hbt hzs C.pos v es.length _ hs g1 ⟨b,off,none⟩ ds.length cap raw.flatten hx hl ?_ hm.ones hlen hby hbase (fun v' w' h4 hg _ => ?_)
 ·intro j u hj
  rw [add_at]
  exact hcc j u hj
 ·have hb:Below B w w':=(Below.refl B w).grown hg hbase hlo
  have hk:Kep (Apt e B w) w w':=kep_grown hg fun k hk hA=>apt_not_own g1 hA hk
  refine h v' w' ⟨raw1++raw,?_,?_⟩ hb hg
  ·rw [List.length_append,List.flatten_append]
   exact h4
  ·have hm2:=g2.append hm
   refine ⟨hm2.1,fun i hi hi' => ?_⟩
   exact C.keep (C.keep (hm2.2 i hi hi') (Kep.refl _ _) (T:=fun b=>S b∧b<w.heap.size) fun b hb hs=>⟨hs,hb⟩) (hk.mono' (T:=fun b=>S b∧b<w.heap.size) fun b hb hs=>hS b hb hs.1) fun b hb hs=>hs.1
end Go.Proofs.YtdijhifdjbnkfaaGreat.MM
